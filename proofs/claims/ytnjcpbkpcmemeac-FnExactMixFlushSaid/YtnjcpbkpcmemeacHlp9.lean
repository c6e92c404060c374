/-
  Contracts of the exact laws' helpers on mixes that came in: their size, their copies.
-/
import Derived.Test.YtnjcpbkpcmemeacHlp8
import Derived.Test.YtnjcpbkpcmemeacGt
import Derived.Deep.Cut
namespace Go.Proofs.Ytnjcpbkpcmemeac
open Go.RowKit
namespace Hlp9
open Il Pm Pq LawB Hlp5 Hlp6 Sl

theorem total_ge (ps : List Pld) : 4 * ps.length ≤ total ps := by
  induction ps with
  | nil => simp [total]
  | cons p ps ih =>
    have : total (p :: ps) = weight p + total ps := by simp [total]
    rw [this, List.length_cons]; unfold weight; omega
set_option maxRecDepth 20000 in
theorem szPacketL (el tag : Int) (n m : Nat) (A B : Option Addr) (c d : Nat) (left : Int) (w : World) (hn : n ≤ maxLen) (hm : m ≤ maxLen) (h0 : 0 ≤ left) (hl : left ≤ 10000000) :
    Calls Try.prog 20 #[.agg #[.int .i64 el, .slice A n c, .int .i64 tag, .slice B m d], .int .i64 left] w (IntB (if (n : Int) + m ≤ left then left - n - m else -1) w) := by
  have B0 := Lib.hid ((Below.refl _ w).alloc (Nat.le_refl _) (.cells #[.int .i64 el, .slice A n c, .int .i64 tag, .slice B m d] 46))
  by_cases h1 : (n : Int) ≤ left
  · by_cases h2 : (n : Int) + m ≤ left
    · rw [if_pos h2]
      go_enter Try.func20, Try.ntmps20
      go_wp2_with fail
      ((with_reducible refine (szIntS _ _ _ left _ hn h0 (by omega)).mono ?_); rintro e w1 ⟨rfl, rfl⟩)
      rw [if_pos h1]
      go_wp2_with fail
      ((with_reducible refine (szIntS _ _ _ (left - (n : Int)) _ hm (by omega) (by omega)).mono ?_); rintro e w1 ⟨rfl, rfl⟩)
      rw [if_pos (by omega)]
      go_wp2
      go_ret
      exact ⟨rfl, B0.out⟩
    · rw [if_neg h2]
      go_enter Try.func20, Try.ntmps20
      go_wp2_with fail
      ((with_reducible refine (szIntS _ _ _ left _ hn h0 (by omega)).mono ?_); rintro e w1 ⟨rfl, rfl⟩)
      rw [if_pos h1]
      go_wp2_with fail
      ((with_reducible refine (szIntS _ _ _ (left - (n : Int)) _ hm (by omega) (by omega)).mono ?_); rintro e w1 ⟨rfl, rfl⟩)
      rw [if_neg (by omega)]
      go_wp2
      go_ret
      exact ⟨rfl, B0.out⟩
  · rw [if_neg (by omega)]
    go_enter Try.func20, Try.ntmps20
    go_wp2_with fail
    ((with_reducible refine (szIntS _ _ _ left _ hn h0 (by omega)).mono ?_); rintro e w1 ⟨rfl, rfl⟩)
    rw [if_neg (by omega)]
    go_wp2
    go_ret
    exact ⟨rfl, B0.out⟩
set_option maxRecDepth 20000 in
theorem szPeeled (p : Pld) (A B : Option Addr) (c d : Nat) (left : Int) (w : World) (hn : p.pk.hd.length ≤ maxLen) (hm : p.pk.bd.length ≤ maxLen) (h0 : 0 ≤ left) (hl : left ≤ 10000000) :
    Calls Try.prog 75 #[.agg #[.int .i64 p.kind, .int .i64 p.next, .int .i64 p.pk.el, .slice A p.pk.hd.length c, .int .i64 p.pk.tag, .slice B p.pk.bd.length d], .int .i64 left] w
      (IntB (if (p.pk.hd.length : Int) + p.pk.bd.length ≤ left then left - p.pk.hd.length - p.pk.bd.length else -1) w) := by
  have B0 := Lib.hid ((Below.refl _ w).alloc (Nat.le_refl _) (.cells #[.int .i64 p.kind, .int .i64 p.next, .int .i64 p.pk.el, .slice A p.pk.hd.length c, .int .i64 p.pk.tag, .slice B p.pk.bd.length d] 103))
  by_cases h2 : (p.pk.hd.length : Int) + p.pk.bd.length ≤ left
  · rw [if_pos h2]
    go_enter Try.func75, Try.ntmps75
    go_wp2_with fail
    ((with_reducible refine (szPacketL p.pk.el p.pk.tag p.pk.hd.length p.pk.bd.length _ _ _ _ left _ hn hm h0 hl).mono ?_); rintro e w1 ⟨rfl, hb⟩)
    rw [if_pos h2]
    have B1 := Lib.hid (B0.out.trans (hb.mono B0.out.size))
    have hv : (0 : Int) ≤ left - p.pk.hd.length - p.pk.bd.length := by omega
    generalize left - (p.pk.hd.length : Int) - p.pk.bd.length = v at *
    clear h2 hb B0
    go_wp2
    go_ret
    exact ⟨rfl, B1.out⟩
  · rw [if_neg h2]
    go_enter Try.func75, Try.ntmps75
    go_wp2_with fail
    ((with_reducible refine (szPacketL p.pk.el p.pk.tag p.pk.hd.length p.pk.bd.length _ _ _ _ left _ hn hm h0 hl).mono ?_); rintro e w1 ⟨rfl, hb⟩)
    rw [if_neg (by omega)]
    have B1 := Lib.hid (B0.out.trans (hb.mono B0.out.size))
    clear h2 hb B0
    go_wp2
    go_ret
    exact ⟨rfl, B1.out⟩
set_option maxRecDepth 20000 in
set_option maxHeartbeats 1000000 in
theorem szPeeledS (lo hi : Nat) (A : Option Addr) (n c : Nat) (ps : List Pld) (left : Int) (w : World) (hx : Pool lo hi w A n c ps) (h0 : 0 ≤ left) (hl : left ≤ 10000000) :
    Calls Try.prog 48 #[.slice A n c, .int .i64 left] w (IntB (if (total ps : Int) ≤ left + 3 * n then left + 3 * n - total ps else -1) w) := by
  have HL := Lib.hid hx.len_
  have hc1 := hx.max_
  have hc2 := hx.cap_
  have hg := total_ge ps
  rw [HL.out] at hg
  unfold maxLen at hc1
  have HR0 : Hid (Pool lo hi w A n c ps ∧ Below w.heap.size w w) := ⟨hx, Below.refl _ _⟩
  clear hx
  generalize hRR : (if (total ps : Int) ≤ left + 3 * n then left + 3 * n - total ps else -1) = R
  have HRp : Hid ((total ps : Int) ≤ left + 3 * n → R = left + 3 * n - total ps) := fun h => by rw [← hRR, if_pos h]
  have HRn : Hid (¬ (total ps : Int) ≤ left + 3 * n → R = -1) := fun h => by rw [← hRR, if_neg h]
  clear hRR
  by_cases hb : (n : Int) ≤ left
  case neg =>
    rw [HRn.out (by omega)]
    go_enter Try.func48, Try.ntmps48
    go_wp2
    go_ret
    exact ⟨rfl, HR0.out.2⟩
  go_enter Try.func48, Try.ntmps48
  go_wp2
  go_loopw [1, 5] (fun q i wr => ∃ j : Nat, j ≤ n ∧ i = .int .i64 j ∧ q = .int .i64 (left - n + 4 * j - total (ps.take j)) ∧ (total (ps.take j) : Int) ≤ left - n + 4 * j ∧ 4 * j ≤ total (ps.take j) ∧ Hid (Pool lo hi wr A n c ps ∧ Below w.heap.size w wr)) (fun _ i _ => n - (intOf i).toNat)
  case atStart => exact ⟨0, Nat.zero_le _, rfl, by simp [total], by simp [total]; omega, by omega, HR0.out⟩
  case round =>
    obtain ⟨j, hj, rfl, rfl, hT, hT4, hR⟩ := hrel
    clear HR0
    by_cases hlj : j < n
    · have hjp : j < ps.length := by rw [HL.out]; exact hlj
      have htk := total_take hjp
      have htl := total_le (ps := ps) (j + 1)
      obtain ⟨b, off, H, ch, G, cg, rfl, _, _, c0, c1, c2, c3, c4, c5, ih, ig⟩ := hR.out.1.at_ hlj
      have hm1 : (pldAt ps j).pk.hd.length ≤ maxLen := Nat.le_trans ih.2.1 ih.2.2.1
      have hm2 : (pldAt ps j).pk.bd.length ≤ maxLen := Nat.le_trans ig.2.1 ig.2.2.1
      clear ih ig
      unfold weight at htk
      have HG : Hid (∀ i, j + 1 ≤ i → i ≤ n → total (ps.take (j + 1)) + 4 * (n - (j + 1)) ≤ total ps) := fun i _ _ => by
        have e1 : total ps = total (ps.take (j + 1)) + total (ps.drop (j + 1)) := by
          unfold total
          rw [← List.sum_append, ← List.map_append, List.take_append_drop]
        have e2 := total_ge (ps.drop (j + 1))
        rw [List.length_drop, HL.out] at e2
        omega
      generalize pldAt ps j = p at *
      go_wp2_with fail
      ((with_reducible refine (szPeeled p _ _ _ _ (left - n + 4 * j - total (ps.take j)) _ hm1 hm2 (by omega) (by omega)).mono ?_); rintro e w1 ⟨rfl, hb1⟩)
      have HR2 : Hid (Pool lo hi w1 (some ⟨b, off, none⟩) n c ps ∧ Below w.heap.size w w1) := ⟨hR.out.1.below hb1 (Nat.le_refl _), hR.out.2.trans (hb1.mono hR.out.2.size)⟩
      clear hb1 hR c0 c1 c2 c3 c4 c5
      by_cases h2 : (p.pk.hd.length : Int) + p.pk.bd.length ≤ left - n + 4 * j - total (ps.take j)
      · rw [if_pos h2]
        have he : left - (n : Int) + 4 * j - total (ps.take j) - p.pk.hd.length - p.pk.bd.length = left - n + 4 * ((j + 1 : Nat) : Int) - total (ps.take (j + 1)) := by omega
        rw [he]
        have HTK := Lib.hid (And.intro htk (And.intro htl hT4))
        have hpos : (0 : Int) ≤ left - n + 4 * ((j + 1 : Nat) : Int) - total (ps.take (j + 1)) := by omega
        clear htk htl he
        go_wp2
        go_roundw
        case rel =>
          obtain ⟨htk, htl, _⟩ := HTK.out
          exact ⟨j + 1, by omega, by go_num, rfl, by omega, by omega, HR2.out⟩
        case measure => simp [intOf]; omega
      · rw [if_neg h2]
        have hq := HG.out n (by omega) (by omega)
        go_wp2
        go_ret
        rw [HRn.out (by omega)]
        exact ⟨rfl, HR2.out.2⟩
    · obtain rfl : j = n := by omega
      rw [List.take_of_length_le (by rw [HL.out]; exact Nat.le_refl _)] at *
      go_wp2
      go_ret
      rw [HRp.out (by omega)]
      exact ⟨by rw [show left - (j : Int) + 4 * j - total ps = left + 3 * j - total ps by omega]; rfl, hR.out.2⟩
/-- A mix that is small enough. -/
def Fits (x : Mx) (left : Int) : Prop := (x.seen.length : Int) + total x.pool ≤ left + 3 * x.pool.length
def rest (x : Mx) (left : Int) : Int := left - x.seen.length + 3 * x.pool.length - total x.pool
set_option maxRecDepth 20000 in
theorem szMix (x : Mx) (A B : Option Addr) (c d lo hi : Nat) (left : Int) (w : World) (hx : MixR lo hi w A x.seen.length c B x.pool.length d x) (h0 : 0 ≤ left) (hl : left ≤ 10000000) :
    Calls Try.prog 16 #[.agg #[.int .i64 x.sec, .slice A x.seen.length c, .slice B x.pool.length d], .int .i64 left] w
      fun e w' => ∃ v : Int, e = .returned (.int .i64 v) ∧ (v < 0 ∨ (Fits x left ∧ v = rest x left ∧ 0 ≤ v ∧ v ≤ left)) ∧ Below w.heap.size w w' := by
  have hb0 := (Below.refl _ w).alloc (Nat.le_refl _) (.cells #[.int .i64 x.sec, .slice A x.seen.length c, .slice B x.pool.length d] 42)
  have hm1 : x.seen.length ≤ maxLen := Nat.le_trans hx.1.2.1 hx.1.2.2.1
  have hg := total_ge x.pool
  have HX := Lib.hid (hx.below hb0 (Nat.le_refl _))
  have B0 := Lib.hid hb0
  clear hx hb0
  go_enter Try.func16, Try.ntmps16
  go_wp2_with fail
  ((with_reducible refine (szIntS _ _ _ left _ hm1 h0 (by omega)).mono ?_); rintro e w1 ⟨rfl, rfl⟩)
  by_cases h1 : (x.seen.length : Int) ≤ left
  · rw [if_pos h1]
    go_wp2_with fail
    ((with_reducible refine (szPeeledS _ _ _ _ _ x.pool (left - x.seen.length) _ HX.out.pl (by omega) (by omega)).mono ?_); rintro e w1 ⟨rfl, hb⟩)
    have B1 := Lib.hid (B0.out.trans (hb.mono B0.out.size))
    clear hb B0
    by_cases h2 : (total x.pool : Int) ≤ left - x.seen.length + 3 * x.pool.length
    · rw [if_pos h2]
      go_wp2
      go_ret
      exact ⟨_, rfl, .inr ⟨by unfold Fits; omega, rfl, by omega, by omega⟩, B1.out⟩
    · rw [if_neg (by omega)]
      go_wp2
      go_ret
      exact ⟨_, rfl, .inl (by omega), B1.out⟩
  · rw [if_neg (by omega)]
    go_wp2
    go_ret
    exact ⟨_, rfl, .inl (by omega), B0.out⟩

end Hlp9
end Go.Proofs.Ytnjcpbkpcmemeac
