/-
  Contracts of the program's chapter 11, the first ones: a new mix, valid mixes.
-/
import Derived.Test.YtnjcpbkpcmemeacIm5e
import Derived.Test.YtnjcpbkpcmemeacSp6a
import Derived.Test.YtnjcpbkpcmemeacSlo
namespace Go.Proofs.Ytnjcpbkpcmemeac
open Go.RowKit
namespace Im6
open Il Gm Mm Tm Lm Pm Pq Hlp5 Sl Mm6 Im2 Im5
open Sp6 (three_cells MixB mix_zero lacksTo lacks_succ lacks_all has_at newM seen_succ pool_succ pool_all pool_no mix_no)

/-- Where x stands first, or -1. -/
def PlacePost (xs : List Int) (x : Int) (w : World) (e : Ending) (w' : World) : Prop := ∃ i : Int, e = .returned (.int .i64 i) ∧ (decide (0 ≤ i)) = has xs x ∧ w = w'
theorem index (lo hi : Nat) (A : Option Addr) (n c : Nat) (xs : List Int) (x : Int) (w : World) (hx : Ints lo hi w A n c xs) :
    Calls Try.prog 90 #[.slice A n c, .int .i64 x] w (PlacePost xs x w) := by
  have hc1 := hx.2.2.1
  have hc2 := hx.2.1
  have HL := Lib.hid hx.1
  unfold maxLen at hc1
  have HX := Lib.hid hx
  clear hx
  go_enter Try.func90, Try.ntmps90
  go_wp2
  go_loop [8] (fun i => ∃ k : Nat, k ≤ n ∧ i = .int .i64 k ∧ Hid (lacksTo xs x k)) (fun i => n - (intOf i).toNat)
  case atStart => exact ⟨0, Nat.zero_le _, rfl, fun i hi => absurd hi (by omega)⟩
  case round =>
    obtain ⟨k, hk, rfl, hT⟩ := hrel
    by_cases hlt : k < n
    · obtain ⟨b, off, rfl, _, _, hcx⟩ := HX.out.at_ hlt
      by_cases he : xs.getD k 0 = x
      · have HF := Lib.hid (has_at (by rw [HL.out]; exact hlt) he)
        have e0 : (x == xs.getD k 0) = true := by simpa using he.symm
        clear he
        generalize xs.getD k 0 = y at *
        go_wp2
        go_ret
        exact ⟨(k : Int), rfl, by rw [HF.out]; simp, rfl⟩
      · have HN := Lib.hid (lacks_succ hT.out he)
        have e0 : (x == xs.getD k 0) = false := by simpa using fun h => he (Eq.symm h)
        clear he hT
        generalize xs.getD k 0 = y at *
        go_wp2
        go_round
        case rel => exact ⟨k + 1, by omega, by go_num, HN.out⟩
        case measure => simp [intOf]; omega
    · obtain rfl : k = n := by omega
      have HF := Lib.hid (lacks_all HL.out hT.out)
      clear hT
      go_wp2
      go_ret
      exact ⟨-1, rfl, by rw [HF.out]; rfl, rfl⟩
theorem contains (lo hi : Nat) (A : Option Addr) (n c : Nat) (xs : List Int) (x : Int) (w : World) (hx : Ints lo hi w A n c xs) :
    Calls Try.prog 60 #[.slice A n c, .int .i64 x] w fun e w' => e = .returned (.bool (has xs x)) ∧ w = w' := by
  have HX := Lib.hid hx
  clear hx
  go_enter Try.func60, Try.ntmps60
  go_wp2_with fail
  ((with_reducible refine (index _ _ _ _ _ xs x _ HX.out).mono ?_); rintro e w1 ⟨i, rfl, hi, rfl⟩)
  have HI := Lib.hid hi
  clear hi
  go_wp2
  go_ret
  rw [← HI.out]
  exact ⟨rfl, rfl⟩

/-- A mix that is the caller's own, and another value, are returned. -/
def MixP (x : Mx) (v : Value) (w : World) (e : Ending) (w' : World) : Prop :=
  ∃ A c B d G, e = .returned (.tuple #[.agg #[.int .i64 x.sec, .slice A x.seen.length c, .slice B x.pool.length d], v]) ∧ MixO w' A x.seen.length c B x.pool.length d x G ∧ Within w.heap.size w'.heap.size G ∧ Below w.heap.size w w'
theorem MixP.b {x : Mx} {v : Value} {w : World} {e : Ending} {w' : World} (h : MixP x v w e w') : MixB x v w e w' := by
  obtain ⟨A, c, B, d, G, rfl, ho, hw, hb⟩ := h
  exact ⟨A, c, B, d, rfl, ho.mix hw, hb⟩
theorem mixO_empty {w : World} {A B : Option Addr} {c d : Nat} {s : Int} (hc : c ≤ maxLen) (hd : d ≤ maxLen) : MixO w A 0 c B 0 d ⟨s, [], []⟩ [[], []] :=
  ⟨0, [[]], Own.nil_ hc, PoolO.nil_ hd, rfl, by simp [Foot, Disj]⟩
theorem within_empty {lo hi : Nat} : Within lo hi [[], []] := by intro f hf x hx; simp at hf; subst hf; simp at hx
theorem mixP_zero {w w' : World} (v : Value) (hb : Below w.heap.size w w') : MixP Mx.zero v w (.returned (.tuple #[.agg #[.int .i64 0, .slice none 0 0, .slice none 0 0], v])) w' :=
  ⟨none, 0, none, 0, _, rfl, mixO_empty (Nat.zero_le _) (Nat.zero_le _), within_empty, hb⟩

def seenV (xs : List Int) : Bool := seenB xs && decide (xs.length ≤ 12)
theorem seenValid (lo hi : Nat) (A : Option Addr) (n c : Nat) (xs : List Int) (w : World) (hx : Ints lo hi w A n c xs) :
    Calls Try.prog 52 #[.slice A n c] w fun e w' => e = .returned (.bool (seenV xs)) ∧ w = w' := by
  have hc1 := hx.2.2.1
  have hc2 := hx.2.1
  have HL := Lib.hid hx.1
  unfold maxLen at hc1
  have HX := Lib.hid hx
  clear hx
  by_cases h12 : 12 < n
  · have HV : Hid (seenV xs = false) := by
      show seenV xs = false
      unfold seenV
      rw [decide_eq_false (by rw [HL.out]; omega), Bool.and_false]
    rw [HV.out]
    go_enter Try.func52, Try.ntmps52
    go_wp2
    go_ret
    exact ⟨rfl, rfl⟩
  have h12' : decide (12 < (n : Int)) = false := by simp; omega
  have HVV : Hid (seenV xs = seenB xs) := by
    show seenV xs = seenB xs
    unfold seenV
    rw [decide_eq_true (by rw [HL.out]; omega), Bool.and_true]
  rw [HVV.out]
  go_enter Try.func52, Try.ntmps52
  go_wp2
  go_loop [10] (fun i => ∃ k : Nat, k ≤ n ∧ i = .int .i64 k ∧ Hid (∀ i, i < k → seenAt xs i = true)) (fun i => n - (intOf i).toNat)
  case atStart => exact ⟨0, Nat.zero_le _, rfl, fun i hi => absurd hi (by omega)⟩
  case round =>
    obtain ⟨k, hk, rfl, hT⟩ := hrel
    by_cases hlt : k < n
    · have hI := Lib.hid (HX.out.take (k := k) (by omega))
      obtain ⟨b, off, rfl, _, _, hcx⟩ := HX.out.at_ hlt
      have HSA : Hid (seenAt xs k = (inG (xs.getD k 0) && !has (xs.take k) (xs.getD k 0))) := rfl
      cases hin : inG (xs.getD k 0)
      · have HV := Lib.hid (seenB_no (i := k) (by rw [HL.out]; exact hlt) (by rw [HSA.out, hin]; rfl))
        generalize xs.getD k 0 = y at *
        go_wp2_with fail
        ((with_reducible refine (inRange y _).mono ?_); rintro e w1 ⟨rfl, rfl⟩)
        rw [hin]
        clear hin
        go_wp2
        go_ret
        rw [HV.out]
        exact ⟨rfl, rfl⟩
      · cases hct : has (xs.take k) (xs.getD k 0)
        · have HN := Lib.hid (seen_succ hT.out (by rw [HSA.out, hin, hct]; rfl))
          generalize xs.getD k 0 = y at *
          generalize xs.take k = ys at *
          clear hT
          go_wp2_with fail
          ((with_reducible refine (inRange y _).mono ?_); rintro e w1 ⟨rfl, rfl⟩)
          rw [hin]
          clear hin
          go_wp2_with fail
          ((with_reducible refine (contains _ _ _ _ _ ys y _ hI.out).mono ?_); rintro e w1 ⟨rfl, rfl⟩)
          rw [hct]
          clear hct
          go_wp2
          go_round
          case rel => exact ⟨k + 1, by omega, by go_num, HN.out⟩
          case measure => simp [intOf]; omega
        · have HV := Lib.hid (seenB_no (i := k) (by rw [HL.out]; exact hlt) (by rw [HSA.out, hin, hct]; rfl))
          generalize xs.getD k 0 = y at *
          generalize xs.take k = ys at *
          go_wp2_with fail
          ((with_reducible refine (inRange y _).mono ?_); rintro e w1 ⟨rfl, rfl⟩)
          rw [hin]
          clear hin
          go_wp2_with fail
          ((with_reducible refine (contains _ _ _ _ _ ys y _ hI.out).mono ?_); rintro e w1 ⟨rfl, rfl⟩)
          rw [hct]
          clear hct
          go_wp2
          go_ret
          rw [HV.out]
          exact ⟨rfl, rfl⟩
    · obtain rfl : k = n := by omega
      have HS := Lib.hid (seenB_iff.2 (by rw [HL.out]; exact hT.out))
      clear hT hlt
      go_wp2
      go_ret
      rw [HS.out]
      exact ⟨rfl, rfl⟩

def poolV (ps : List Pld) : Bool := poolOk ps && decide (ps.length ≤ 5)
def PvRel (lo hi : Nat) (wr : World) (B : Option Addr) (m d : Nat) (ps : List Pld) (w : World) : Prop := Pool lo hi wr B m d ps ∧ Below w.heap.size w wr
theorem kind_eq (k : Int) : kindB k = knd01 k := by unfold kindB knd01; exact decide_eq_decide.2 (by omega)
set_option maxRecDepth 20000 in
set_option maxHeartbeats 1000000 in
theorem poolValid (lo hi : Nat) (B : Option Addr) (m d : Nat) (ps : List Pld) (w : World) (hx : Pool lo hi w B m d ps) :
    Calls Try.prog 53 #[.slice B m d] w (BoolB (poolV ps) w) := by
  have hd1 := hx.max_
  have hd2 := hx.cap_
  have HM := Lib.hid hx.len_
  unfold maxLen at hd1
  have HR0 : Hid (PvRel lo hi w B m d ps w) := ⟨hx, Below.refl _ _⟩
  clear hx
  by_cases h5 : 5 < m
  · have HV : Hid (poolV ps = false) := by
      show poolV ps = false
      unfold poolV
      rw [decide_eq_false (by rw [HM.out]; omega), Bool.and_false]
    rw [HV.out]
    go_enter Try.func53, Try.ntmps53
    go_wp2
    go_ret
    exact ⟨rfl, Below.refl _ _⟩
  have h5' : decide (5 < (m : Int)) = false := by simp; omega
  have HVV : Hid (poolV ps = poolOk ps) := by
    show poolV ps = poolOk ps
    unfold poolV
    rw [decide_eq_true (by rw [HM.out]; omega), Bool.and_true]
  rw [HVV.out]
  go_enter Try.func53, Try.ntmps53
  go_wp2
  go_loopw [10] (fun i wr => ∃ j : Nat, j ≤ m ∧ i = .int .i64 j ∧ Hid (∀ i, i < j → pldOk (pldAt ps i) = true) ∧ Hid (PvRel lo hi wr B m d ps w)) (fun i _ => m - (intOf i).toNat)
  case atStart => exact ⟨0, Nat.zero_le _, rfl, fun i hi => absurd hi (by omega), HR0.out⟩
  case round =>
    obtain ⟨j, hj, rfl, hT, hR⟩ := hrel
    clear HR0
    by_cases hlj : j < m
    · obtain ⟨b, off, H, ch, G, cg, rfl, _, _, c0, c1, c2, c3, c4, c5, ih, ig⟩ := hR.out.1.at_ hlj
      have hal : ∀ o, Below wr.heap.size wr (wr.alloc o) := fun o => (Below.refl _ _).alloc (Nat.le_refl _) _
      have IH := Lib.hid fun o => ih.below (hal o) (Nat.le_refl _)
      have IG := Lib.hid fun o => ig.below (hal o) (Nat.le_refl _)
      have HAL := Lib.hid hal
      clear ih ig hal
      have HPO : Hid (pldOk (pldAt ps j) = (knd01 (pldAt ps j).kind && (inName (pldAt ps j).next && pktOk ⟨(pldAt ps j).pk.el, (pldAt ps j).pk.hd, (pldAt ps j).pk.tag, (pldAt ps j).pk.bd⟩))) := rfl
      have HNO : Hid (pldOk (pldAt ps j) = false → poolOk ps = false) := fun h => pool_no (i := j) (by rw [HM.out]; exact hlj) h
      have HYES : Hid (pldOk (pldAt ps j) = true → ∀ i, i < j + 1 → pldOk (pldAt ps i) = true) := fun h => pool_succ hT.out h
      clear hT
      generalize pldAt ps j = p at *
      cases hk : knd01 p.kind
      · have HV := Lib.hid (HNO.out (by rw [HPO.out, hk]; rfl))
        go_wp2_with fail
        ((with_reducible refine (kindValid p.kind _).mono ?_); rintro e w1 ⟨rfl, rfl⟩)
        rw [kind_eq, hk]
        clear hk
        go_wp2
        go_ret
        rw [HV.out]
        exact ⟨rfl, hR.out.2.alloc hR.out.2.size _⟩
      cases hn : inName p.next
      · have HV := Lib.hid (HNO.out (by rw [HPO.out, hk, hn]; rfl))
        go_wp2_with fail
        ((with_reducible refine (kindValid p.kind _).mono ?_); rintro e w1 ⟨rfl, rfl⟩)
        rw [kind_eq, hk]
        go_wp2_with fail
        ((with_reducible refine (nameValid p.next _).mono ?_); rintro e w1 ⟨rfl, rfl⟩)
        rw [hn]
        clear hk hn
        go_wp2
        go_ret
        rw [HV.out]
        exact ⟨rfl, hR.out.2.alloc hR.out.2.size _⟩
      cases hp : pktOk ⟨p.pk.el, p.pk.hd, p.pk.tag, p.pk.bd⟩
      · have HV := Lib.hid (HNO.out (by rw [HPO.out, hk, hn, hp]; rfl))
        go_wp2_with fail
        ((with_reducible refine (kindValid p.kind _).mono ?_); rintro e w1 ⟨rfl, rfl⟩)
        rw [kind_eq, hk]
        go_wp2_with fail
        ((with_reducible refine (nameValid p.next _).mono ?_); rintro e w1 ⟨rfl, rfl⟩)
        rw [hn]
        go_wp2_with fail
        ((with_reducible refine (Im5.PacketValid _ _ _ _ _ _ _ _ _ _ p.pk.el p.pk.tag p.pk.hd p.pk.bd _ (IH.out _) (IG.out _)).mono ?_); rintro e w1 ⟨rfl, hb⟩)
        rw [hp]
        clear hk hn hp c0 c1 c2 c3 c4 c5
        have B1 := Lib.hid (hR.out.2.trans (((HAL.out _).trans (hb.mono (HAL.out _).size)).mono hR.out.2.size))
        clear hb
        go_wp2
        go_ret
        rw [HV.out]
        exact ⟨rfl, B1.out⟩
      · have HN := Lib.hid (HYES.out (by rw [HPO.out, hk, hn, hp]; rfl))
        go_wp2_with fail
        ((with_reducible refine (kindValid p.kind _).mono ?_); rintro e w1 ⟨rfl, rfl⟩)
        rw [kind_eq, hk]
        go_wp2_with fail
        ((with_reducible refine (nameValid p.next _).mono ?_); rintro e w1 ⟨rfl, rfl⟩)
        rw [hn]
        go_wp2_with fail
        ((with_reducible refine (Im5.PacketValid _ _ _ _ _ _ _ _ _ _ p.pk.el p.pk.tag p.pk.hd p.pk.bd _ (IH.out _) (IG.out _)).mono ?_); rintro e w1 ⟨rfl, hb⟩)
        rw [hp]
        have hb2 := (HAL.out _).trans (hb.mono (HAL.out _).size)
        have HR3 := Lib.hid (show PvRel lo hi w1 _ m d ps w from ⟨hR.out.1.below hb2 (Nat.le_refl _), hR.out.2.trans (hb2.mono hR.out.2.size)⟩)
        clear hk hn hp c0 c1 c2 c3 c4 c5 hb hb2 hR
        go_wp2
        go_roundw
        case rel => exact ⟨j + 1, by omega, by go_num, HN.out, HR3.out⟩
        case measure => simp [intOf]; omega
    · obtain rfl : j = m := by omega
      have HP := Lib.hid (pool_all HM.out hT.out)
      clear hT hlj
      go_wp2
      go_ret
      rw [HP.out]
      exact ⟨rfl, hR.out.2⟩

theorem mix_is (x : Mx) : mixOk x = (inG x.sec && (seenV x.seen && poolV x.pool)) := by
  unfold mixOk seenV poolV
  cases inG x.sec <;> cases seenB x.seen <;> cases poolOk x.pool <;> simp
theorem MixValid (x : Mx) (A B : Option Addr) (n c m d lo hi : Nat) (w : World) (hx : MixR lo hi w A n c B m d x) :
    Calls Try.prog 18 #[.agg #[.int .i64 x.sec, .slice A n c, .slice B m d]] w (BoolB (mixOk x) w) := by
  have h0 : Below w.heap.size w (w.alloc (.cells #[.int .i64 x.sec, .slice A n c, .slice B m d] 26)) := (Below.refl _ _).alloc (Nat.le_refl _) _
  have HA := Lib.hid (hx.1.below h0 (Nat.le_refl _))
  have HB := Lib.hid (hx.2.below h0 (Nat.le_refl _))
  have B0 := Lib.hid h0
  rw [mix_is]
  clear hx h0
  cases hg : inG x.sec
  · rw [show (false && (seenV x.seen && poolV x.pool)) = false from rfl]
    go_enter Try.func18, Try.ntmps18
    go_wp2_with fail
    ((with_reducible refine (inRange x.sec _).mono ?_); rintro e w1 ⟨rfl, rfl⟩)
    rw [hg]
    clear hg
    go_wp2
    go_ret
    exact ⟨rfl, B0.out⟩
  cases hs : seenV x.seen
  · rw [show (true && (false && poolV x.pool)) = false from rfl]
    go_enter Try.func18, Try.ntmps18
    go_wp2_with fail
    ((with_reducible refine (inRange x.sec _).mono ?_); rintro e w1 ⟨rfl, rfl⟩)
    rw [hg]
    go_wp2_with fail
    ((with_reducible refine (seenValid _ _ _ _ _ x.seen _ HA.out).mono ?_); rintro e w1 ⟨rfl, rfl⟩)
    rw [hs]
    clear hg hs
    go_wp2
    go_ret
    exact ⟨rfl, B0.out⟩
  rw [show (true && (true && poolV x.pool)) = poolV x.pool from rfl]
  go_enter Try.func18, Try.ntmps18
  go_wp2_with fail
  ((with_reducible refine (inRange x.sec _).mono ?_); rintro e w1 ⟨rfl, rfl⟩)
  rw [hg]
  go_wp2_with fail
  ((with_reducible refine (seenValid _ _ _ _ _ x.seen _ HA.out).mono ?_); rintro e w1 ⟨rfl, rfl⟩)
  rw [hs]
  go_wp2_with fail
  ((with_reducible refine (poolValid _ _ _ _ _ x.pool _ HB.out).mono ?_); rintro e w1 ⟨rfl, hb⟩)
  have B1 := Lib.hid (B0.out.trans (hb.mono B0.out.size))
  clear hg hs hb
  go_wp2
  go_ret
  exact ⟨rfl, B1.out⟩

end Im6
end Go.Proofs.Ytnjcpbkpcmemeac
