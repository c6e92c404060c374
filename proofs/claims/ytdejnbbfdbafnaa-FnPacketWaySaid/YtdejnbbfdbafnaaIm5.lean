/-
  Contracts of the program's chapter 5, the small ones: names, paths, valid packets, keys of a path, the unmasked header.
-/
import Derived.Test.YtdejnbbfdbafnaaIm2
import Derived.Test.YtdejnbbfdbafnaaIm4
import Derived.Test.YtdejnbbfdbafnaaGrp
import Derived.Test.YtdejnbbfdbafnaaSp5
import Derived.Laws.CopyOwn
namespace Go.Proofs.Ytdejnbbfdbafnaa
open Go.RowKit
namespace Im5
open Il Gm Mm Tm Lm Pm Im2 Im3 Im4
open Sp5 (namesOk allTo allTo_zero allTo_succ all_of_to all_bad pathOk pathF secAt keys_step secAt_in pubs_in pubs_len)

def kindB (x : Int) : Bool := decide (x = 0 ∨ x = 1)
set_option maxRecDepth 20000 in
theorem kindB_yes {x : Int} (h : x = 0 ∨ x = 1) : kindB x = true := decide_eq_true h
theorem kindB_no {x : Int} (h : ¬ (x = 0 ∨ x = 1)) : kindB x = false := decide_eq_false h
set_option maxRecDepth 20000 in
theorem kindValid (x : Int) (w : World) :
    Calls Try.prog 61 #[.int .i64 x] w fun e w' => e = .returned (.bool (kindB x)) ∧ w = w' := by
  by_cases h0 : x = 0
  · subst h0
    rw [show kindB 0 = true from rfl]
    go_enter Try.func61, Try.ntmps61
    go_wp2
    go_ret
    exact ⟨rfl, rfl⟩
  · by_cases h1 : x = 1
    · subst h1
      rw [show kindB 1 = true from rfl]
      go_enter Try.func61, Try.ntmps61
      go_wp2
      go_ret
      exact ⟨rfl, rfl⟩
    · rw [kindB_no (by omega)]
      have e0 : (x == 0) = false := by simpa using h0
      have e1 : (x == 1) = false := by simpa using h1
      go_enter Try.func61, Try.ntmps61
      go_wp2
      go_ret
      exact ⟨rfl, rfl⟩

set_option maxRecDepth 20000 in
theorem nameValid (x : Int) (w : World) :
    Calls Try.prog 40 #[.int .i64 x] w fun e w' => e = .returned (.bool (inName x)) ∧ w = w' := by
  by_cases h0 : 0 ≤ x
  · by_cases h1 : x < 8
    · have hv : inName x = true := inName_iff.2 (by omega)
      rw [hv]
      clear hv
      go_enter Try.func40, Try.ntmps40
      go_wp2
      go_ret
      exact ⟨rfl, rfl⟩
    · have hv : inName x = false := by unfold inName; simp; omega
      rw [hv]
      clear hv
      have h2 : decide (x < 8) = false := by simpa using h1
      clear h1
      go_enter Try.func40, Try.ntmps40
      go_wp2
      go_ret
      exact ⟨rfl, rfl⟩
  · have hv : inName x = false := by unfold inName; simp; omega
    rw [hv]
    clear hv
    have h2 : decide (0 ≤ x) = false := by simpa using h0
    clear h0
    go_enter Try.func40, Try.ntmps40
    go_wp2
    go_ret
    exact ⟨rfl, rfl⟩

set_option maxRecDepth 20000 in
theorem namesValid (lo hi : Nat) (A : Option Addr) (n c : Nat) (xs : List Int) (w : World) (hx : Ints lo hi w A n c xs) :
    Calls Try.prog 39 #[.slice A n c] w fun e w' => e = .returned (.bool (namesOk xs)) ∧ w = w' := by
  have hc1 := hx.2.2.1
  have hc2 := hx.2.1
  have HL := Lib.hid hx.1
  unfold maxLen at hc1
  have HX := Lib.hid hx
  clear hx
  go_enter Try.func39, Try.ntmps39
  go_wp2
  go_loop [7] (fun i => ∃ k : Nat, k ≤ n ∧ i = .int .i64 k ∧ allTo inName xs k) (fun i => n - (intOf i).toNat)
  case atStart => exact ⟨0, Nat.zero_le _, rfl, allTo_zero _ _⟩
  case round =>
    obtain ⟨k, hk, rfl, hT⟩ := hrel
    have HT := Lib.hid hT
    clear hT
    by_cases hlt : k < n
    · obtain ⟨b, off, rfl, _, _, hcx⟩ := HX.out.at_ hlt
      generalize hxe : xs.getD k 0 = x at hcx
      have HXE := Lib.hid hxe
      clear hxe
      cases hin : inName x
      · have hfin : namesOk xs = false := by
          have := all_bad (P := inName) (k := k) (by rw [HL.out]; exact hlt) (by rw [HXE.out]; exact hin)
          simp [namesOk, this]
        have HF := Lib.hid hfin
        clear hfin
        go_wp2_with fail
        ((with_reducible refine (nameValid x w).mono ?_); rintro e w' ⟨rfl, rfl⟩)
        rw [hin]
        clear hin
        go_wp2
        go_ret
        rw [HF.out]
        exact ⟨rfl, rfl⟩
      · have HN := Lib.hid (allTo_succ HT.out (by rw [HXE.out]; exact hin))
        go_wp2_with fail
        ((with_reducible refine (nameValid x w).mono ?_); rintro e w' ⟨rfl, rfl⟩)
        rw [hin]
        clear hin
        go_wp2
        go_round
        case rel => exact ⟨k + 1, by omega, by go_num, HN.out⟩
        case measure => simp [intOf]; omega
    · have hkn : k = n := by omega
      have hall : xs.all inName = true := all_of_to (by rw [HL.out, ← hkn]; exact HT.out)
      have HF : Hid (namesOk xs = true) := hall
      clear hkn hall
      go_wp2
      go_ret
      rw [HF.out]
      exact ⟨rfl, rfl⟩

set_option maxRecDepth 20000 in
theorem publicsValid (lo hi : Nat) (A : Option Addr) (n c : Nat) (xs : List Int) (w : World) (hx : Ints lo hi w A n c xs) :
    Calls Try.prog 80 #[.slice A n c] w fun e w' => e = .returned (.bool (xs.all inG)) ∧ w = w' := by
  have hc1 := hx.2.2.1
  have hc2 := hx.2.1
  have HL := Lib.hid hx.1
  unfold maxLen at hc1
  have HX := Lib.hid hx
  clear hx
  go_enter Try.func80, Try.ntmps80
  go_wp2
  go_loop [4, 7] (fun _ i => ∃ k : Nat, k ≤ n ∧ i = .int .i64 k ∧ allTo inG xs k) (fun _ i => n - (intOf i).toNat)
  case atStart => exact ⟨0, Nat.zero_le _, rfl, allTo_zero _ _⟩
  case round =>
    obtain ⟨k, hk, rfl, hT⟩ := hrel
    have HT := Lib.hid hT
    clear hT
    by_cases hlt : k < n
    · obtain ⟨b, off, rfl, _, _, hcx⟩ := HX.out.at_ hlt
      generalize hxe : xs.getD k 0 = x at hcx
      have HXE := Lib.hid hxe
      clear hxe
      cases hin : inG x
      · have hfin : xs.all inG = false := all_bad (P := inG) (k := k) (by rw [HL.out]; exact hlt) (by rw [HXE.out]; exact hin)
        have HF := Lib.hid hfin
        clear hfin
        go_wp2_with fail
        ((with_reducible refine (inRange x w).mono ?_); rintro e w' ⟨rfl, rfl⟩)
        rw [hin]
        clear hin
        go_wp2
        go_ret
        rw [HF.out]
        exact ⟨rfl, rfl⟩
      · have HN := Lib.hid (allTo_succ HT.out (by rw [HXE.out]; exact hin))
        go_wp2_with fail
        ((with_reducible refine (inRange x w).mono ?_); rintro e w' ⟨rfl, rfl⟩)
        rw [hin]
        clear hin
        go_wp2
        go_round
        case rel => exact ⟨k + 1, by omega, by go_num, HN.out⟩
        case measure => simp [intOf]; omega
    · have hkn : k = n := by omega
      have hall : xs.all inG = true := all_of_to (by rw [HL.out, ← hkn]; exact HT.out)
      have HF : Hid (xs.all inG = true) := hall
      clear hkn hall
      go_wp2
      go_ret
      rw [HF.out]
      exact ⟨rfl, rfl⟩

set_option maxRecDepth 20000 in
theorem pathValid (lo hi : Nat) (A : Option Addr) (n c : Nat) (xs : List Int) (w : World) (hx : Ints lo hi w A n c xs) :
    Calls Try.prog 66 #[.slice A n c] w fun e w' => e = .returned (.bool (pubsOk xs)) ∧ w = w' := by
  have hc1 := hx.2.2.1
  have hc2 := hx.2.1
  have HL := Lib.hid hx.1
  unfold maxLen at hc1
  have HX := Lib.hid hx
  clear hx
  by_cases h1 : n < 1
  · have hfin : pubsOk xs = false := by unfold pubsOk; rw [HL.out]; simp; omega
    rw [hfin]
    clear hfin
    obtain rfl : n = 0 := by omega
    clear h1
    go_enter Try.func66, Try.ntmps66
    go_wp2
    go_ret
    exact ⟨rfl, rfl⟩
  · by_cases h3 : 3 < n
    · have hfin : pubsOk xs = false := by unfold pubsOk; rw [HL.out]; simp; omega
      rw [hfin]
      clear hfin
      have hd : decide (1 ≤ (n : Int)) = true := by simp; omega
      have hd3 : decide ((n : Int) ≤ 3) = false := by simp; omega
      go_enter Try.func66, Try.ntmps66
      go_wp2
      go_ret
      exact ⟨rfl, rfl⟩
    · have hfin : pubsOk xs = xs.all inG := by unfold pubsOk; rw [HL.out, decide_eq_true (by omega : 1 ≤ n ∧ n ≤ 3), Bool.and_true]
      rw [hfin]
      clear hfin
      have hd : decide (1 ≤ (n : Int)) = true := by simp; omega
      have hd3 : decide ((n : Int) ≤ 3) = true := by simp; omega
      go_enter Try.func66, Try.ntmps66
      go_wp2_with fail
      ((with_reducible refine (publicsValid _ _ _ _ _ xs w HX.out).mono ?_); rintro e w' ⟨rfl, rfl⟩)
      go_wp2
      go_ret
      exact ⟨rfl, rfl⟩

/-- What the loop of PathKeys has written. -/
def KeyRel (w wr : World) (x : Int) (ps : List Int) (n k : Nat) : Prop :=
  Il.Own w.heap.size (w.heap.size + 1) wr (some ⟨w.heap.size, 0, none⟩) n n (keysF x (ps.take k) ++ List.replicate (n - k) 0) ∧ Below w.heap.size w wr ∧ wr.heap.size = w.heap.size + 1
theorem keys_set {x : Int} {ps : List Int} {n k : Nat} (hl : ps.length = n) (hk : k < n) :
    (keysF x (ps.take k) ++ List.replicate (n - k) 0).set k (mulG (secAt x ps k) (ps.getD k 0)) = keysF x (ps.take (k + 1)) ++ List.replicate (n - (k + 1)) 0 := by
  have h1 : (keysF x (ps.take k)).length = k := by rw [keysF_len, List.length_take]; omega
  rw [List.set_append_right _ _ (by omega), h1, Nat.sub_self]
  have h2 : n - k = (n - (k + 1)) + 1 := by omega
  rw [h2, List.replicate_succ, List.set_cons_zero, (keys_step (x := x) (ps := ps) (k := k) (by omega)).1, List.append_assoc]
  rfl
set_option maxRecDepth 20000 in
theorem PathKeys (lo hi : Nat) (A : Option Addr) (n c : Nat) (ps : List Int) (x : Int) (w : World) (hx : Ints lo hi w A n c ps) :
    Calls Try.prog 21 #[.int .i64 x, .slice A n c] w (PairB (pathF x ps) (pathOk x ps) w) := by
  have HX := Lib.hid hx
  have HL := Lib.hid hx.1
  have HNO : Hid (∀ b : Nat, pathOk x ps = false → PairB (pathF x ps) (pathOk x ps) w (.returned (.tuple #[.slice (some ⟨b, 0, none⟩) 0 0, .bool false])) (w.alloc (.cells #[] 3))) := fun b h => by
    have e : pathF x ps = [] := by simp [pathF, h]
    rw [e, h]
    exact ⟨_, _, rfl, Own.nil_ (Nat.zero_le _), (Below.refl _ _).alloc (Nat.le_refl _) _⟩
  clear hx
  cases hg : inG x
  · have e1 : pathOk x ps = false := by simp [pathOk, hg]
    have HE := Lib.hid e1
    clear e1
    go_enter Try.func21, Try.ntmps21
    go_wp2_with fail
    ((with_reducible refine (inRange x w).mono ?_); rintro e w' ⟨rfl, rfl⟩)
    rw [hg]
    clear hg
    go_wp2
    go_ret2
    exact HNO.out _ HE.out
  · cases hp : pubsOk ps
    · have e1 : pathOk x ps = false := by simp [pathOk, hp]
      have HE := Lib.hid e1
      clear e1
      go_enter Try.func21, Try.ntmps21
      go_wp2_with fail
      ((with_reducible refine (inRange x w).mono ?_); rintro e w' ⟨rfl, rfl⟩)
      rw [hg]
      clear hg
      go_wp2_with fail
      ((with_reducible refine (pathValid _ _ _ _ _ ps w HX.out).mono ?_); rintro e w' ⟨rfl, rfl⟩)
      rw [hp]
      clear hp
      go_wp2
      go_ret2
      exact HNO.out _ HE.out
    · have e1 : pathOk x ps = true := by simp [pathOk, hg, hp]
      have e2 : pathF x ps = keysF x ps := by simp [pathF, e1]
      have HG := Lib.hid hg
      have HP := Lib.hid (pubs_in hp)
      have hn3 : n ≤ 3 := by rw [← HL.out]; exact pubs_len hp
      rw [e1, e2]
      clear e1 e2 HNO
      have hmk := run_make_row' (P := Try.prog) 23 3 (.int .i64 0) 8 Try.underlying23 infoInt rfl .i64 .i64 n (by omega) (by omega)
      have HK0 : Hid (KeyRel w (w.alloc (.cells (madeCells #[.int .i64 0] n) 3)) x ps n 0) := ⟨by simpa [keysF] using own_made w 3 n (by unfold maxLen; omega), (Below.refl _ _).alloc (Nat.le_refl _) _, by simp⟩
      go_enter Try.func21, Try.ntmps21
      go_wp2_with fail
      ((with_reducible refine (inRange x w).mono ?_); rintro e w' ⟨rfl, rfl⟩)
      rw [hg]
      clear hg
      go_wp2_with fail
      ((with_reducible refine (pathValid _ _ _ _ _ ps w HX.out).mono ?_); rintro e w' ⟨rfl, rfl⟩)
      rw [hp]
      clear hp
      go_wp2
      clear hmk
      go_loopw [0, 23] (fun s i wr => ∃ k : Nat, k ≤ n ∧ i = .int .i64 k ∧ s = .int .i64 (secAt x ps k) ∧ Hid (KeyRel w wr x ps n k)) (fun _ i _ => n - (intOf i).toNat)
      case atStart => exact ⟨0, Nat.zero_le _, rfl, rfl, HK0.out⟩
      case round =>
        obtain ⟨k, hk, rfl, rfl, hT⟩ := hrel
        clear HK0
        by_cases hlt : k < n
        · obtain ⟨b, off, rfl, _, _, hcx⟩ := HX.out.at_ hlt
          have hb3 : b < w.heap.size := World.block_lt_of_cell? w _ hcx
          have hcy := (hT.out.2.1.cell (p := ⟨b, off + k, none⟩) hb3).trans hcx
          have hkl : k < ps.length := by rw [HL.out]; exact hlt
          have HS2 := Lib.hid (keys_step (x := x) hkl).2
          have HST := Lib.hid (keys_set (x := x) HL.out hlt)
          obtain ⟨bk, fk, ek, _, _, ck⟩ := hT.out.1.1.at_ hlt
          simp only [Option.some.injEq, Addr.mk.injEq, and_true] at ek
          obtain ⟨rfl, rfl⟩ := ek
          have fk := hT.out.1.2 w.heap.size 0 (by omega) rfl k hlt
          have hO := hT.out.1.set_ hlt (mulG (secAt x ps k) (ps.getD k 0))
          rw [HST.out] at hO
          have hz : (wr.setCell ⟨w.heap.size, 0 + k, none⟩ (.int .i64 (mulG (secAt x ps k) (ps.getD k 0)))).heap.size = w.heap.size + 1 := by rw [← hT.out.2.2]; simp [World.setCell]
          have HN : Hid (KeyRel w (wr.setCell ⟨w.heap.size, 0 + k, none⟩ (.int .i64 (mulG (secAt x ps k) (ps.getD k 0)))) x ps n (k + 1)) := ⟨hO, hT.out.2.1.setCell (p := ⟨w.heap.size, 0 + k, none⟩) (Nat.le_refl _) _, hz⟩
          rw [Nat.zero_add] at HN ck fk
          generalize ps.getD k 0 = p at hcy HS2 HN
          generalize secAt x ps k = s at HS2 HN ⊢
          clear hcx hkl hT hO hz HST
          go_wp2_with fail
          ((with_reducible refine (Grp.iShared s p _).mono ?_); rintro e w' ⟨rfl, rfl⟩)
          generalize mulG s p = q at HS2 HN ⊢
          go_wp2_with fail
          ((with_reducible refine (Grp.iFactor q _).mono ?_); rintro e w' ⟨rfl, rfl⟩)
          go_wp2_with fail
          ((with_reducible refine (Grp.iBlind s (facG q) _).mono ?_); rintro e w' ⟨rfl, rfl⟩)
          rw [← HS2.out]
          clear HS2
          go_wp2
          go_roundw
          case rel => exact ⟨k + 1, by omega, by go_num, rfl, HN.out⟩
          case measure => simp [intOf]; omega
        · have hkn : k = n := by omega
          have hl : (keysF x ps).length = n := by rw [keysF_len, HL.out]
          have HP2 : Hid (PairB (keysF x ps) true w (.returned (.tuple #[.slice (some ⟨w.heap.size, 0, none⟩) n n, .bool true])) wr) := by
            have h1 := hT.out.1
            rw [hkn, List.take_of_length_le (by rw [HL.out]; exact Nat.le_refl _), Nat.sub_self, List.replicate_zero, List.append_nil] at h1
            refine ⟨_, n, by rw [hl], ?_, hT.out.2.1⟩
            rw [hl, hT.out.2.2]
            exact h1
          clear hkn hl hT
          go_wp2
          go_ret2
          exact HP2.out

def zeros (n : Nat) : List Int := List.replicate n 0
theorem zeros_len (n : Nat) : (zeros n).length = n := List.length_replicate
theorem splice_zeros {xs : List Int} {n m k : Nat} (hl : xs.length = n) (h : k + n ≤ m) : splice (vals (zeros m)) k (vals xs) = vals (zeros k ++ xs ++ List.replicate (m - (k + n)) 0) := by
  subst hl
  unfold splice vals zeros
  simp [List.map_append]
  omega
theorem made_zeros (n : Nat) : madeCells #[.int .i64 0] n = (vals (zeros n)).toArray := by
  unfold madeCells vals zeros
  apply Array.ext
  · simp
  · intro i h1 h2
    simp [Nat.mod_one]
set_option maxRecDepth 20000 in
theorem unmaskHeader (lo hi : Nat) (A : Option Addr) (n c : Nat) (xs : List Int) (key : Int) (w : World) (hx : Ints lo hi w A n c xs) (hn : n ≤ 12) :
    Calls Try.prog 60 #[.slice A n c, .int .i64 key] w (NewIntsT w (offF (xs ++ List.replicate (12 - n) 0) key)) := by
  have HL := Lib.hid hx.1
  have hmk := run_make_row' (P := Try.prog) 23 3 (.int .i64 0) 8 Try.underlying23 infoInt rfl .i64 .i64 12 (by omega) (by omega)
  have hb0 : Below w.heap.size w (w.alloc (.cells (vals (zeros 12)).toArray 3)) := (Below.refl _ _).alloc (Nat.le_refl _) _
  have HX := Lib.hid ((ints_hi hx).below hb0 (Nat.le_refl _))
  have hvz := made_zeros 12
  rw [hvz] at hmk
  have hmk2 : ∀ w : World, (Instr.makeSlice 23 (.int .i64 12) (.int .i64 12)).run Try.prog w = .ok (.slice (some ⟨w.heap.size, 0, none⟩) 12 12) (w.alloc (.cells (vals (zeros 12)).toArray 3)) := hmk
  clear hx hmk hvz
  go_enter Try.func60, Try.ntmps60
  go_wp2_with (with_reducible refine wpList_copy_splice rfl _ _ _ _ rfl 3 underInts sizeInt _ _ _ _ _ _ rfl rfl w.heap.size 0 (vals (zeros 12)) 3 ?hg (vals xs) ?hn ?hpos ?hfit ?h1 w.heap.size w ?hb ?hBg ?h)
  case hg => exact heap_alloc_new w _
  case hn => simp only [vals, List.length_map, HL.out]; exact (Nat.min_eq_left (by omega)).symm
  case hpos =>
    intro hpos
    have hn0 : 0 < n := by rw [← HL.out]; simpa [vals] using hpos
    obtain ⟨b, off, e, _, hb, hz, hc⟩ := HX.out.2.2.2 hn0
    refine ⟨⟨b, off, none⟩, e, fun j v hv => ?_⟩
    have hj : j < n := by
      have := (List.getElem?_eq_some_iff.1 hv).1
      simpa [vals, HL.out] using this
    rw [Addr.add_mid, hc j hj]
    simp only [vals, List.getElem?_map, Option.map_eq_some_iff] at hv
    obtain ⟨y, hy, rfl⟩ := hv
    rw [List.getD_eq_getElem?_getD, hy]; rfl
  case hfit => simp only [vals, List.length_map, HL.out, zeros_len]; omega
  case h1 => intro v hv; obtain ⟨y, _, rfl⟩ := List.mem_map.1 hv; rfl
  case hb => exact hb0
  case hBg => exact Nat.le_refl _
  case h =>
  intro w1 hg1 hB1
  have hg2 := hg1.out
  rw [splice_zeros (k := 0) HL.out (by omega), Nat.zero_add] at hg2
  have hg2 : w1.heap[w.heap.size]? = some (.cells (vals (xs ++ List.replicate (12 - n) 0)).toArray 3 (0, 0)) := hg2
  have hl12 : (xs ++ List.replicate (12 - n) 0).length = 12 := by simp [HL.out]; omega
  have ho := own_block hg2 (by rw [hl12]; simp [maxLen])
  rw [hl12] at ho
  have HO := Lib.hid ho
  have HB := Lib.hid hB1
  clear hg1 hg2 hB1 ho hl12 hmk2 hb0
  go_wp2_with fail
  ((with_reducible refine (MaskOffT _ _ _ _ _ (xs ++ List.replicate (12 - n) 0) key w1 HO.out.ints).mono ?_); rintro e w2 ⟨A2, rfl, ho, hb⟩)
  have HP : Hid (NewIntsT w (offF (xs ++ List.replicate (12 - n) 0) key) (.returned (.slice A2 (offF (xs ++ List.replicate (12 - n) 0) key).length (offF (xs ++ List.replicate (12 - n) 0) key).length)) w2) :=
    ⟨A2, rfl, ho.mono HB.out.size (Nat.le_refl _), HB.out.trans (hb.mono HB.out.size)⟩
  clear ho hb
  go_wp2
  go_ret
  exact HP.out

end Im5
end Go.Proofs.Ytdejnbbfdbafnaa
