/-
  Contracts of the model's chapter 11, the first ones: a new mix, valid mixes.
-/
import Derived.Test.YtnjcpbkpcmemeacSp5c
import Derived.Test.YtnjcpbkpcmemeacGt
import Derived.Deep.QuietTactic
import Derived.BigQuiet
namespace Go.Proofs.Ytnjcpbkpcmemeac
open Go.RowKit
namespace Sp6
open Il Gm Mm Tm Lm Pm Pq Hlp5 Sl Mm6 Sp2

theorem three_cells {w : World} {b : Nat} {v0 v1 v2 : Value} {t : TypeId} (h : Blk w b #[v0, v1, v2] t) :
    w.cell? ⟨b, 0, none⟩ = some v0 ∧ w.cell? ⟨b, 1, none⟩ = some v1 ∧ w.cell? ⟨b, 2, none⟩ = some v2 ∧ ∀ j, w.frozen? ⟨b, j, none⟩ = false := by
  refine ⟨?_, ?_, ?_, fun j => by unfold Blk at h; simp [World.frozen?, h]⟩
  all_goals rw [cell_of_row _ _ _ _ _ _ h]; rfl
theorem six_cellsB {w : World} {b : Nat} {v0 v1 v2 v3 v4 v5 : Value} {t : TypeId} (h : Blk w b #[v0, v1, v2, v3, v4, v5] t) :
    w.cell? ⟨b, 0, none⟩ = some v0 ∧ w.cell? ⟨b, 1, none⟩ = some v1 ∧ w.cell? ⟨b, 2, none⟩ = some v2 ∧ w.cell? ⟨b, 3, none⟩ = some v3 ∧ w.cell? ⟨b, 4, none⟩ = some v4 ∧ w.cell? ⟨b, 5, none⟩ = some v5 ∧ ∀ j, w.frozen? ⟨b, j, none⟩ = false := six_cells h

/-- A mix and another value are returned; the mix lies in new memory. -/
def MixB (x : Mx) (v : Value) (w : World) (e : Ending) (w' : World) : Prop :=
  ∃ A c B d, e = .returned (.tuple #[.agg #[.int .i64 x.sec, .slice A x.seen.length c, .slice B x.pool.length d], v]) ∧ MixR w.heap.size w'.heap.size w' A x.seen.length c B x.pool.length d x ∧ Below w.heap.size w w'
/-- .. it is the caller's own, and its keys can be appended to. -/
def MixS (x : Mx) (v : Value) (w : World) (e : Ending) (w' : World) : Prop :=
  ∃ A c B d, e = .returned (.tuple #[.agg #[.int .i64 x.sec, .slice A x.seen.length c, .slice B x.pool.length d], v]) ∧ MixD w.heap.size w' A c B d x ∧ Below w.heap.size w w'
theorem MixS.b {x : Mx} {v : Value} {w : World} {e : Ending} {w' : World} (h : MixS x v w e w') : MixB x v w e w' := by
  obtain ⟨A, c, B, d, rfl, h1, h2⟩ := h
  exact ⟨A, c, B, d, rfl, h1.mix, h2⟩
theorem mixS_zero {w w' : World} (v : Value) (hb : Below w.heap.size w w') : MixS Mx.zero v w (.returned (.tuple #[.agg #[.int .i64 0, .slice none 0 0, .slice none 0 0], v])) w' :=
  ⟨none, 0, none, 0, rfl, mixD_empty rfl (Nat.zero_le _), hb⟩
theorem mix_zero {w w' : World} (v : Value) (hb : Below w.heap.size w w') : MixB Mx.zero v w (.returned (.tuple #[.agg #[.int .i64 0, .slice none 0 0, .slice none 0 0], v])) w' :=
  ⟨none, 0, none, 0, rfl, ⟨Ints.nil_ (Nat.zero_le _), Pool.nil_ (Nat.zero_le _)⟩, hb⟩

/-- The first k numbers are not x. -/
def lacksTo (xs : List Int) (x : Int) (k : Nat) : Prop := ∀ i, i < k → ¬ xs.getD i 0 = x
theorem lacks_succ {xs : List Int} {x : Int} {k : Nat} (h : lacksTo xs x k) (h2 : ¬ xs.getD k 0 = x) : lacksTo xs x (k + 1) := fun i hi => by
  rcases Nat.lt_or_ge i k with h3 | h3
  · exact h i h3
  · obtain rfl : i = k := by omega
    exact h2
theorem lacks_all {xs : List Int} {x : Int} {n : Nat} (hl : xs.length = n) (h : lacksTo xs x n) : has xs x = false := by
  cases hc : has xs x
  · rfl
  · obtain ⟨i, hi, e⟩ := List.getElem_of_mem (has_iff.1 hc)
    refine absurd ?_ (h i (by omega))
    rw [List.getD_eq_getElem?_getD, List.getElem?_eq_getElem hi, e]; rfl
theorem has_at {xs : List Int} {x : Int} {k : Nat} (hk : k < xs.length) (e : xs.getD k 0 = x) : has xs x = true := by
  rw [has_iff, ← e, List.getD_eq_getElem?_getD, List.getElem?_eq_getElem hk]
  exact List.getElem_mem hk

theorem l1Has (lo hi : Nat) (A : Option Addr) (n c : Nat) (xs : List Int) (x : Int) (w : World) (hx : Ints lo hi w A n c xs) :
    Calls Try.prog 44 #[.slice A n c, .int .i64 x] w fun e w' => e = .returned (.bool (has xs x)) ∧ w = w' := by
  have hc1 := hx.2.2.1
  have hc2 := hx.2.1
  have HL := Lib.hid hx.1
  unfold maxLen at hc1
  have HX := Lib.hid hx
  clear hx
  go_enter Try.func44, Try.ntmps44
  go_wp2
  go_loop [5] (fun i => ∃ k : Nat, k ≤ n ∧ i = .int .i64 k ∧ Hid (lacksTo xs x k)) (fun i => n - (intOf i).toNat)
  case atStart => exact ⟨0, Nat.zero_le _, rfl, fun i hi => absurd hi (by omega)⟩
  case round =>
    obtain ⟨k, hk, rfl, hT⟩ := hrel
    by_cases hlt : k < n
    · obtain ⟨b, off, rfl, _, _, hcx⟩ := HX.out.at_ hlt
      by_cases he : xs.getD k 0 = x
      · have HF := Lib.hid (has_at (by rw [HL.out]; exact hlt) he)
        have e0 : (xs.getD k 0 == x) = true := by simpa using he
        clear he
        generalize xs.getD k 0 = y at *
        go_wp2
        go_ret
        rw [HF.out]
        exact ⟨rfl, rfl⟩
      · have HN := Lib.hid (lacks_succ hT.out he)
        have e0 : (xs.getD k 0 == x) = false := by simpa using he
        clear he hT
        generalize xs.getD k 0 = y at *
        go_wp2
        go_round
        case rel => exact ⟨k + 1, by omega, by go_num, HN.out⟩
        case measure => simp [intOf]; omega
    · obtain rfl : k = n := by omega
      have HF := Lib.hid (lacks_all HL.out hT.out)
      clear hT
      go_wp2
      go_ret
      rw [HF.out]
      exact ⟨rfl, rfl⟩

def newM (s : Int) : Mx := bif inG s then ⟨s, [], []⟩ else Mx.zero
theorem MixNewS (s : Int) (w : World) : Calls Try.prog 65 #[.int .i64 s] w (MixS (newM s) (.bool (inG s)) w) := by
  have h0 : Below w.heap.size w (w.alloc (.cells #[.int .i64 0, .slice none 0 0, .slice none 0 0] 26)) := (Below.refl _ _).alloc (Nat.le_refl _) _
  cases hg : inG s
  · have HM : Hid (newM s = Mx.zero) := by show newM s = _; unfold newM; rw [hg]; rfl
    rw [HM.out]
    have B0 := Lib.hid h0
    clear h0
    go_enter Try.func65, Try.ntmps65
    go_wp2_with fail
    ((with_reducible refine (l1Is s _).mono ?_); rintro e w1 ⟨rfl, rfl⟩)
    rw [hg]
    clear hg
    go_wp2
    refine bodyPost_ret (v := .tuple #[.agg #[.int .i64 0, .slice none 0 0, .slice none 0 0], .bool false]) ?_ rfl (mixS_zero _ ?_)
    · rw [results_cell_tmp rfl]
      go_simp
    · exact B0.out
  · have HM : Hid (newM s = ⟨s, [], []⟩) := by show newM s = _; unfold newM; rw [hg]; rfl
    rw [HM.out]
    have B0 := Lib.hid h0
    clear h0
    go_enter Try.func65, Try.ntmps65
    go_wp2_with fail
    ((with_reducible refine (l1Is s _).mono ?_); rintro e w1 ⟨rfl, rfl⟩)
    rw [hg]
    clear hg
    go_wp2
    refine bodyPost_ret (v := .tuple #[.agg #[.int .i64 s, .slice (some ⟨w.heap.size + 1, 0, none⟩) 0 0, .slice (some ⟨w.heap.size + 1 + 1, 0, none⟩) 0 0], .bool true]) ?_ rfl ?_
    · rw [results_cell_tmp rfl]
      go_simp
    · refine ⟨_, 0, _, 0, rfl, mixD_empty rfl (Nat.zero_le _), ?_⟩
      exact ((((Below.refl _ _).alloc (Nat.le_refl _) _).alloc (by simp) _).alloc (by simp; omega) _)
theorem MixNew (s : Int) (w : World) : Calls Try.prog 65 #[.int .i64 s] w (MixB (newM s) (.bool (inG s)) w) := (MixNewS s w).mono fun _ _ h => h.b

theorem l11Peeled (p : Pld) (A B : Option Addr) (c d l1 h1 l2 h2 : Nat) (w : World) (i1 : Ints l1 h1 w A p.pk.hd.length c p.pk.hd) (i2 : Ints l2 h2 w B p.pk.bd.length d p.pk.bd) :
    Calls Try.prog 45 #[.agg #[.int .i64 p.kind, .int .i64 p.next, .int .i64 p.pk.el, .slice A p.pk.hd.length c, .int .i64 p.pk.tag, .slice B p.pk.bd.length d]] w (BoolB (pldOk p) w) := by
  have h0 : Below w.heap.size w (w.alloc (.cells #[.int .i64 p.kind, .int .i64 p.next, .int .i64 p.pk.el, .slice A p.pk.hd.length c, .int .i64 p.pk.tag, .slice B p.pk.bd.length d] 39)) := (Below.refl _ _).alloc (Nat.le_refl _) _
  have I1 := Lib.hid (i1.below h0 (Nat.le_refl _))
  have I2 := Lib.hid (i2.below h0 (Nat.le_refl _))
  have B0 := Lib.hid h0
  clear i1 i2 h0
  cases hk : knd01 p.kind
  · have HV : Hid (pldOk p = false) := by show pldOk p = false; unfold pldOk; rw [hk]; rfl
    rw [HV.out]
    go_enter Try.func45, Try.ntmps45
    go_wp2_with fail
    ((with_reducible refine (l6In p.kind 0 1 _).mono ?_); rintro e w1 ⟨rfl, rfl⟩)
    rw [show decide (0 ≤ p.kind ∧ p.kind ≤ 1) = false from hk]
    clear hk
    go_wp2
    go_ret
    exact ⟨rfl, B0.out⟩
  cases hn : inName p.next
  · have HV : Hid (pldOk p = false) := by show pldOk p = false; unfold pldOk; rw [hn, hk]; rfl
    rw [HV.out]
    go_enter Try.func45, Try.ntmps45
    go_wp2_with fail
    ((with_reducible refine (l6In p.kind 0 1 _).mono ?_); rintro e w1 ⟨rfl, rfl⟩)
    rw [show decide (0 ≤ p.kind ∧ p.kind ≤ 1) = true from hk]
    go_wp2_with fail
    ((with_reducible refine (l6In p.next 0 7 _).mono ?_); rintro e w1 ⟨rfl, rfl⟩)
    rw [show decide (0 ≤ p.next ∧ p.next ≤ 7) = false from hn]
    clear hk hn
    go_wp2
    go_ret
    exact ⟨rfl, B0.out⟩
  have HV : Hid (pldOk p = pktOk ⟨p.pk.el, p.pk.hd, p.pk.tag, p.pk.bd⟩) := by show pldOk p = _; unfold pldOk; rw [hn, hk]; rfl
  rw [HV.out]
  go_enter Try.func45, Try.ntmps45
  go_wp2_with fail
  ((with_reducible refine (l6In p.kind 0 1 _).mono ?_); rintro e w1 ⟨rfl, rfl⟩)
  rw [show decide (0 ≤ p.kind ∧ p.kind ≤ 1) = true from hk]
  go_wp2_with fail
  ((with_reducible refine (l6In p.next 0 7 _).mono ?_); rintro e w1 ⟨rfl, rfl⟩)
  rw [show decide (0 ≤ p.next ∧ p.next ≤ 7) = true from hn]
  clear hk hn
  go_wp2_with fail
  ((with_reducible refine (Sp5.PacketValid _ _ _ _ _ _ _ _ _ _ p.pk.el p.pk.tag p.pk.hd p.pk.bd _ I1.out I2.out).mono ?_); rintro e w1 ⟨rfl, hb⟩)
  have B1 := Lib.hid (B0.out.trans (hb.mono B0.out.size))
  clear hb
  go_wp2
  go_ret
  exact ⟨rfl, B1.out⟩

theorem seen_succ {xs : List Int} {k : Nat} (h : ∀ i, i < k → seenAt xs i = true) (h2 : seenAt xs k = true) : ∀ i, i < k + 1 → seenAt xs i = true := fun i hi => by
  rcases Nat.lt_or_ge i k with h3 | h3
  · exact h i h3
  · obtain rfl : i = k := by omega
    exact h2
theorem pool_succ {ps : List Pld} {k : Nat} (h : ∀ i, i < k → pldOk (pldAt ps i) = true) (h2 : pldOk (pldAt ps k) = true) : ∀ i, i < k + 1 → pldOk (pldAt ps i) = true := fun i hi => by
  rcases Nat.lt_or_ge i k with h3 | h3
  · exact h i h3
  · obtain rfl : i = k := by omega
    exact h2
theorem pool_all {ps : List Pld} {n : Nat} (hl : ps.length = n) (h : ∀ i, i < n → pldOk (pldAt ps i) = true) : poolOk ps = true := by
  unfold poolOk
  rw [List.all_eq_true]
  intro x hx
  obtain ⟨i, hi, e⟩ := List.getElem_of_mem hx
  have := h i (by omega)
  unfold pldAt at this
  rw [List.getD_eq_getElem?_getD, List.getElem?_eq_getElem hi, e] at this
  exact this
theorem pool_no {ps : List Pld} {i : Nat} (hi : i < ps.length) (h : pldOk (pldAt ps i) = false) : poolOk ps = false := by
  cases hb : poolOk ps
  · rfl
  · unfold poolOk at hb
    rw [List.all_eq_true] at hb
    have := hb (ps[i]) (List.getElem_mem hi)
    unfold pldAt at h
    rw [List.getD_eq_getElem?_getD, List.getElem?_eq_getElem hi] at h
    rw [show pldOk ((some ps[i]).getD Pld.zero) = pldOk ps[i] from rfl, this] at h
    cases h
theorem mix_no {m : Mx} (h : inG m.sec = false ∨ seenB m.seen = false ∨ ¬ m.seen.length ≤ 12 ∨ poolOk m.pool = false ∨ ¬ m.pool.length ≤ 5) : mixOk m = false := by
  cases hb : mixOk m
  · rfl
  · obtain ⟨h1, h2, h3, h4, h5⟩ := mixOk_iff.1 hb
    rw [h1, h2, h4] at h
    rcases h with h | h | h | h | h
    · cases h
    · cases h
    · omega
    · cases h
    · omega

def MvRel (b lo hi : Nat) (wr : World) (A B : Option Addr) (n c m d : Nat) (x : Mx) (w : World) : Prop :=
  Blk wr b #[.int .i64 x.sec, .slice A n c, .slice B m d] 26 ∧ MixR lo hi wr A n c B m d x ∧ Below w.heap.size w wr
set_option maxRecDepth 20000 in
set_option maxHeartbeats 1000000 in
theorem MixValid (x : Mx) (A B : Option Addr) (n c m d lo hi : Nat) (w : World) (hx : MixR lo hi w A n c B m d x) :
    Calls Try.prog 14 #[.agg #[.int .i64 x.sec, .slice A n c, .slice B m d]] w (BoolB (mixOk x) w) := by
  have hc1 := hx.1.2.2.1
  have hc2 := hx.1.2.1
  have hd1 := hx.2.max_
  have hd2 := hx.2.cap_
  have HL := Lib.hid hx.1.1
  have HM := Lib.hid hx.2.len_
  unfold maxLen at hc1 hd1
  have h0 : Below w.heap.size w (w.alloc (.cells #[.int .i64 x.sec, .slice A n c, .slice B m d] 26)) := (Below.refl _ _).alloc (Nat.le_refl _) _
  have HR0 : Hid (MvRel w.heap.size lo hi (w.alloc (.cells #[.int .i64 x.sec, .slice A n c, .slice B m d] 26)) A B n c m d x w) := ⟨heap_alloc_new _ _, ⟨hx.1.below h0 (Nat.le_refl _), hx.2.below h0 (Nat.le_refl _)⟩, h0⟩
  clear hx h0
  go_enter Try.func14, Try.ntmps14
  go_wp2
  go_loopw [3] (fun i wr => ∃ k : Nat, k ≤ n ∧ i = .int .i64 k ∧ Hid (∀ i, i < k → seenAt x.seen i = true) ∧ Hid (MvRel w.heap.size lo hi wr A B n c m d x w)) (fun i _ => n - (intOf i).toNat)
  case atStart => exact ⟨0, Nat.zero_le _, rfl, fun i hi => absurd hi (by omega), HR0.out⟩
  case round =>
    obtain ⟨k, hk, rfl, hT, hR⟩ := hrel
    clear HR0
    obtain ⟨z0, z1, z2, zf⟩ := three_cells hR.out.1
    by_cases hlt : k < n
    · have hI := Lib.hid (hR.out.2.1.1.take (k := k) (by omega))
      obtain ⟨b, off, rfl, _, _, hcx⟩ := hR.out.2.1.1.at_ hlt
      have HSA : Hid (seenAt x.seen k = (inG (x.seen.getD k 0) && !has (x.seen.take k) (x.seen.getD k 0))) := rfl
      cases hin : inG (x.seen.getD k 0)
      · have hv := mix_no (m := x) (.inr (.inl (seenB_no (i := k) (by rw [HL.out]; exact hlt) (by rw [HSA.out, hin]; rfl))))
        rw [hv]
        clear hv
        generalize x.seen.getD k 0 = y at *
        go_wp2
        go_quiet ((go_at_call 43; exact quiet_eq (l1Is y _)))
        go_wp2
        go_ret
        exact ⟨rfl, below_dr hR.out.2.2 _⟩
      · cases hct : has (x.seen.take k) (x.seen.getD k 0)
        · have HN := Lib.hid (seen_succ hT.out (by rw [HSA.out, hin, hct]; rfl))
          generalize x.seen.getD k 0 = y at *
          generalize x.seen.take k = ys at *
          clear hT
          go_wp2
          go_quiet ((first | (go_at_call 43; exact quiet_eq (l1Is y _)) | (go_at_call 44; exact quiet_eq (l1Has _ _ _ _ _ ys y _ (hI.out.drewN _)))))
          go_wp2
          go_roundw
          case rel => exact ⟨k + 1, by omega, by go_num, HN.out, hR.out.1, hR.out.2.1, below_dr hR.out.2.2 _⟩
          case measure => simp [intOf]; omega
        · have hv := mix_no (m := x) (.inr (.inl (seenB_no (i := k) (by rw [HL.out]; exact hlt) (by rw [HSA.out, hin, hct]; rfl))))
          rw [hv]
          clear hv
          generalize x.seen.getD k 0 = y at *
          generalize x.seen.take k = ys at *
          go_wp2
          go_quiet ((first | (go_at_call 43; exact quiet_eq (l1Is y _)) | (go_at_call 44; exact quiet_eq (l1Has _ _ _ _ _ ys y _ (hI.out.drewN _)))))
          go_wp2
          go_ret
          exact ⟨rfl, below_dr hR.out.2.2 _⟩
    · obtain rfl : k = n := by omega
      have HS := Lib.hid (seenB_iff.2 (by rw [HL.out]; exact hT.out))
      clear hT hlt
      have HR1 := Lib.hid hR.out
      clear hR
      go_wp2
      clear z0 z1 z2 zf
      go_loopw [4] (fun i wr => ∃ j : Nat, j ≤ m ∧ i = .int .i64 j ∧ Hid (∀ i, i < j → pldOk (pldAt x.pool i) = true) ∧ Hid (MvRel w.heap.size lo hi wr A B k c m d x w)) (fun i _ => m - (intOf i).toNat)
      case atStart => exact ⟨0, Nat.zero_le _, rfl, fun i hi => absurd hi (by omega), HR1.out⟩
      case round =>
        obtain ⟨j, hj, rfl, hT, hR⟩ := hrel
        clear HR1
        obtain ⟨z0, z1, z2, zf⟩ := three_cells hR.out.1
        by_cases hlj : j < m
        · obtain ⟨b, off, H, ch, G, cg, rfl, _, _, c0, c1, c2, c3, c4, c5, ih, ig⟩ := hR.out.2.1.2.at_ hlj
          have IH := Lib.hid ih
          have IG := Lib.hid ig
          clear ih ig
          cases hp : pldOk (pldAt x.pool j)
          · have HV := Lib.hid (mix_no (m := x) (.inr (.inr (.inr (.inl (pool_no (i := j) (by rw [HM.out]; exact hlj) hp))))))
            generalize pldAt x.pool j = p at *
            go_wp2_with fail
            ((with_reducible refine (l11Peeled p _ _ _ _ _ _ _ _ _ IH.out IG.out).mono ?_); rintro e w1 ⟨rfl, hb⟩)
            rw [hp]
            clear hp c0 c1 c2 c3 c4 c5 z0 z1 z2 zf
            go_wp2
            go_ret
            rw [HV.out]
            exact ⟨rfl, hR.out.2.2.trans (hb.mono hR.out.2.2.size)⟩
          · have HN := Lib.hid (pool_succ hT.out hp)
            generalize pldAt x.pool j = p at *
            clear hT
            go_wp2_with fail
            ((with_reducible refine (l11Peeled p _ _ _ _ _ _ _ _ _ IH.out IG.out).mono ?_); rintro e w1 ⟨rfl, hb⟩)
            rw [hp]
            have HR2 : Hid (MvRel w.heap.size lo hi w1 (some ⟨b, off, none⟩) (some ⟨b, off, none⟩) k c m d x w → True) := fun _ => trivial
            have HR3 := Lib.hid (show MvRel w.heap.size lo hi w1 A _ k c m d x w from ⟨hR.out.1.below hb (Nat.le_refl _), ⟨hR.out.2.1.1.below hb (Nat.le_refl _), hR.out.2.1.2.below hb (Nat.le_refl _)⟩, hR.out.2.2.trans (hb.mono hR.out.2.2.size)⟩)
            clear hp c0 c1 c2 c3 c4 c5 z0 z1 z2 zf hb hR HR2
            go_wp2
            go_roundw
            case rel => exact ⟨j + 1, by omega, by go_num, HN.out, HR3.out⟩
            case measure => simp [intOf]; omega
        · obtain rfl : j = m := by omega
          have HP := Lib.hid (pool_all HM.out hT.out)
          clear hT hlj
          cases hg : inG x.sec
          · have HV := Lib.hid (mix_no (m := x) (.inl hg))
            go_wp2_with fail
            ((with_reducible refine (l1Is x.sec _).mono ?_); rintro e w1 ⟨rfl, rfl⟩)
            rw [hg]
            clear hg
            go_wp2
            go_ret
            rw [HV.out]
            exact ⟨rfl, hR.out.2.2⟩
          · by_cases h12 : k ≤ 12
            · have e12 : decide ((k : Int) ≤ 12) = true := by simp; omega
              by_cases h5 : j ≤ 5
              · have e5 : decide ((j : Int) ≤ 5) = true := by simp; omega
                have HV := Lib.hid (mixOk_iff.2 ⟨hg, HS.out, by rw [HL.out]; exact h12, HP.out, by rw [HM.out]; exact h5⟩)
                go_wp2_with fail
                ((with_reducible refine (l1Is x.sec _).mono ?_); rintro e w1 ⟨rfl, rfl⟩)
                rw [hg]
                clear hg h12 h5
                go_wp2
                go_ret
                rw [HV.out]
                exact ⟨rfl, hR.out.2.2⟩
              · have e5 : decide ((j : Int) ≤ 5) = false := by simp; omega
                have HV := Lib.hid (mix_no (m := x) (.inr (.inr (.inr (.inr (by rw [HM.out]; exact h5))))))
                go_wp2_with fail
                ((with_reducible refine (l1Is x.sec _).mono ?_); rintro e w1 ⟨rfl, rfl⟩)
                rw [hg]
                clear hg h12 h5
                go_wp2
                go_ret
                rw [HV.out]
                exact ⟨rfl, hR.out.2.2⟩
            · have e12 : decide ((k : Int) ≤ 12) = false := by simp; omega
              have HV := Lib.hid (mix_no (m := x) (.inr (.inr (.inl (by rw [HL.out]; exact h12)))))
              go_wp2_with fail
              ((with_reducible refine (l1Is x.sec _).mono ?_); rintro e w1 ⟨rfl, rfl⟩)
              rw [hg]
              clear hg h12
              go_wp2
              go_ret
              rw [HV.out]
              exact ⟨rfl, hR.out.2.2⟩

end Sp6
end Go.Proofs.Ytnjcpbkpcmemeac
