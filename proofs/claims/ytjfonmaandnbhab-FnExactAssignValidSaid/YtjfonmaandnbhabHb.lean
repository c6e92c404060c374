/-
  Contracts of the laws' helpers on tables of bools: sizes, copies, equality.
-/
import Derived.Test.YtjfonmaandnbhabCb
import Derived.Test.YtjfonmaandnbhabAv
import Derived.Laws.MakeOwn
import Derived.BigQuiet
import Derived.StillTailTactics
import Derived.Deep.RegionLaw
import Derived.Deep.Cut
namespace Go.Proofs.Ytjfonmaandnbhab
open Go.RowKit
namespace Hb
open Il Sl Fo Bi Cb

theorem boolPost_drew (b : Bool) (w : World) (d e : Nat) : BoolPost b w (.returned (.bool b)) ((w.drewN d).drewN e) := ⟨rfl, d + e, World.drewN_drewN w d e⟩
theorem eqB_of_take {xs ys : List Bool} {n : Nat} (hx : xs.length = n) (hy : ys.length = n) (h : xs.take n = ys.take n) : xs = ys := by
  rwa [List.take_of_length_le (by omega), List.take_of_length_le (by omega)] at h
theorem boolInfo : (Try.prog.info? 4).map (fun i => (i.zero, i.size, i.bytes)) = some (some (.bool false), 1, 1) := by kernel_rfl
theorem infoBoolL : (Try.prog.info? 52).map (fun i => (i.zero, i.size, i.bytes)) = some (some (.slice none 0 0), 1, 24) := by kernel_rfl
theorem elBk : ElT 23 52 (.slice none 0 0) 1 24 := ⟨Try.underlying23, infoBoolL, rfl, by omega, by omega⟩
set_option maxRecDepth 20000 in
theorem eqBoolS (la ha lb hb : Nat) (A B : Option Addr) (n m c d : Nat) (xs ys : List Bool) (w : World) (hx : Bls la ha w A n c xs) (hy : Bls lb hb w B m d ys) :
    Calls Try.prog 49 #[.slice A n c, .slice B m d] w (BoolPost (decide (xs = ys)) w) := by
  have hc1 := hx.2.2.1
  have hc2 := hx.2.1
  have hc3 := hy.2.2.1
  have hc4 := hy.2.1
  unfold maxLen at hc1 hc3
  have HX := Lib.hid hx
  have HY := Lib.hid hy
  by_cases hne : n = m
  · subst hne
    have hl : ((n : Int) != (n : Int)) = false := by simp
    clear hx hy
    go_enter Try.func49, Try.ntmps49
    go_wp2
    go_loopw [5] (fun i wr => ∃ k : Nat, k ≤ n ∧ i = .int .i64 k ∧ Hid (xs.take k = ys.take k ∧ ∃ dd, wr = w.drewN dd)) (fun i _ => n - (intOf i).toNat)
    case atStart => exact ⟨0, Nat.zero_le _, rfl, rfl, 0, rfl⟩
    case round =>
      obtain ⟨k, hk, rfl, hT⟩ := hrel
      obtain ⟨hT, dd, rfl⟩ := hT
      have HT := Lib.hid hT
      clear hT
      by_cases hlt : k < n
      · obtain ⟨b, off, rfl, _, _, hcx⟩ := HX.out.at_ hlt
        obtain ⟨b2, off2, rfl, _, _, hcy⟩ := HY.out.at_ hlt
        generalize hxe : xs.getD k false = x at hcx
        generalize hye : ys.getD k false = y at hcy
        have HXE := Lib.hid hxe
        have HYE := Lib.hid hye
        clear hxe hye
        by_cases hxy : x = y
        · subst hxy
          go_wp2
          go_quiet (fail)
          go_wp2
          refine ⟨⟨k + 1, by omega, by go_num, takeB_eq_succ (by rw [HX.out.1]; exact hlt) (by rw [HY.out.1]; exact hlt) HT.out (HXE.out.trans HYE.out.symm), _, rfl⟩, ?_⟩
          simp [intOf]
          omega
        · have hb1 : (!(x == y)) = true := by simpa using hxy
          have hfin : decide (xs = ys) = false := by
            simp only [decide_eq_false_iff_not]
            rintro rfl
            exact hxy (HXE.out.symm.trans HYE.out)
          have HF := Lib.hid hfin
          clear hxy hfin
          go_wp2
          go_quiet (fail)
          go_wp2
          go_ret
          rw [HF.out]
          exact boolPost_drew false w _ _
      · have hkn : k = n := by omega
        have hfin : decide (xs = ys) = true := by
          simp only [decide_eq_true_eq]
          exact eqB_of_take HX.out.1 HY.out.1 (by rw [← hkn]; exact HT.out)
        have HF := Lib.hid hfin
        clear hfin hkn
        go_wp2
        go_ret
        rw [HF.out]
        exact ⟨rfl, _, rfl⟩
  · have hl : ((n : Int) != (m : Int)) = true := by simp; omega
    have hne2 : decide (xs = ys) = false := by
      simp only [decide_eq_false_iff_not]
      rintro rfl
      exact hne (hx.1.symm.trans hy.1)
    rw [hne2]
    clear hne2 hx hy hne
    go_enter Try.func49, Try.ntmps49
    go_wp2
    go_ret
    exact ⟨rfl, 0, rfl⟩
set_option maxRecDepth 20000 in
theorem toBoolS (lo hi : Nat) (A : Option Addr) (n c : Nat) (xs : List Bool) (w : World) (hx : Bls lo hi w A n c xs) (hn : n ≤ 10000000) :
    Calls Try.prog 46 #[.slice A n c] w (NewBls w xs) := by
  have hl := hx.1
  have HX := Lib.hid hx
  have HL := Lib.hid hl
  have hmk := run_make_row' (P := Try.prog) 52 4 (.bool false) 1 Try.underlying52 boolInfo rfl .i64 .i64 n (by omega) (by omega)
  have hown := blo_made w 4 n (by unfold maxLen; omega)
  have hbel : Below w.heap.size w (w.alloc (.cells (madeCells #[.bool false] n) 4)) := (Below.refl _ _).alloc (Nat.le_refl _) _
  have hsz : (w.alloc (.cells (madeCells #[.bool false] n) 4)).heap.size = w.heap.size + 1 := by simp
  have HO := Lib.hid hown
  have HB := Lib.hid hbel
  have HS := Lib.hid hsz
  clear hx hl hown hbel hsz
  go_enter Try.func46, Try.ntmps46
  go_wp2
  clear hmk
  go_loopw [4] (fun i wr => ∃ k : Nat, k ≤ n ∧ i = .int .i64 k ∧ Hid (Blo w.heap.size (w.heap.size + 1) wr (some ⟨w.heap.size, 0, none⟩) n n (xs.take k ++ List.replicate (n - k) false) ∧ Below w.heap.size w wr ∧ wr.heap.size = w.heap.size + 1)) (fun i _ => n - (intOf i).toNat)
  case atStart => exact ⟨0, Nat.zero_le _, rfl, by simpa using HO.out, HB.out, HS.out⟩
  case round =>
    obtain ⟨k, hk, rfl, hT⟩ := hrel
    by_cases hlt : k < n
    · obtain ⟨b, off, rfl, hb1, hb2, hcx⟩ := HX.out.at_ hlt
      have hb3 : b < w.heap.size := World.block_lt_of_cell? w _ hcx
      have hcx' := (hT.out.2.1.cell (p := ⟨b, off + k, none⟩) hb3).trans hcx
      obtain ⟨b2, off2, e2, _, _, hcy⟩ := hT.out.1.1.at_ hlt
      simp only [Option.some.injEq, Addr.mk.injEq, and_true] at e2
      obtain ⟨rfl, rfl⟩ := e2
      have hfz := hT.out.1.2 w.heap.size 0 (by omega) rfl k hlt
      have hT' := hT.out.1.set_ hlt (xs.getD k false)
      rw [copyB_step xs HL.out hlt] at hT'
      have hT3 : (wr.setCell ⟨w.heap.size, 0 + k, none⟩ (.bool (xs.getD k false))).heap.size = w.heap.size + 1 := by rw [← hT.out.2.2]; simp [World.setCell]
      have HT := Lib.hid (show _ ∧ _ ∧ _ from ⟨hT', hT.out.2.1.setCell (p := ⟨w.heap.size, 0 + k, none⟩) (Nat.le_refl _) (.bool (xs.getD k false)), hT3⟩)
      generalize xs.getD k false = x at hcx' HT
      rw [Nat.zero_add] at hcy hfz HT
      clear hT hT' hT3 hcx
      go_wp2
      go_roundw
      case rel => exact ⟨k + 1, by omega, by go_num, HT.out⟩
      case measure => simp [intOf]; omega
    · have hkn : k = n := by omega
      subst hkn
      have hT1 := hT.out.1
      have hT2 := hT.out.2.1
      have hT3 := hT.out.2.2
      rw [List.take_of_length_le (by rw [HL.out]; exact Nat.le_refl _), Nat.sub_self, List.replicate_zero, List.append_nil] at hT1
      have hpost : NewBls w xs (.returned (.slice (some ⟨w.heap.size, 0, none⟩) k k)) wr := ⟨_, k, by rw [HL.out], by rw [hT3, HL.out]; exact hT1, hT2⟩
      have HT := Lib.hid hpost
      clear hT hT1 hT2 hT3 hpost
      go_wp2
      go_ret
      exact HT.out
theorem bls_dr {lo hi : Nat} {w : World} {A : Option Addr} {n c : Nat} {xs : List Bool} (h : Bls lo hi w A n c xs) : Bls lo hi w.drew A n c xs := h
theorem below_dr {K d : Nat} {w w' : World} (h : Below K w w') : Below K w (w'.drewN d) := ⟨h.os, h.tape, h.output, h.size, h.block⟩
def EqRelB (l1 h1 l2 h2 : Nat) (w wr : World) (A B : Option Addr) (n c d : Nat) (xss : List (List Bool)) : Prop := Bts l1 h1 wr A n c xss ∧ Bts l2 h2 wr B n d xss ∧ ∃ q, wr = w.drewN q
set_option maxRecDepth 20000 in
set_option maxHeartbeats 1000000 in
theorem eqBoolSS (A B : Option Addr) (n c d l1 h1 l2 h2 : Nat) (xss : List (List Bool)) (w : World) (i1 : Bts l1 h1 w A n c xss) (i2 : Bts l2 h2 w B n d xss) :
    Calls Try.prog 27 #[.slice A n c, .slice B n d] w (BoolPost true w) := by
  have hc1 := i1.max_
  have hc2 := i1.cap_
  unfold maxLen at hc1
  have HR0 : Hid (EqRelB l1 h1 l2 h2 w w A B n c d xss) := ⟨i1, i2, 0, rfl⟩
  clear i1 i2
  go_enter Try.func27, Try.ntmps27
  go_wp2
  go_loopw [5] (fun i wr => ∃ j : Nat, j ≤ n ∧ i = .int .i64 j ∧ Hid (EqRelB l1 h1 l2 h2 w wr A B n c d xss)) (fun i _ => n - (intOf i).toNat)
  case atStart => exact ⟨0, Nat.zero_le _, rfl, HR0.out⟩
  case round =>
    obtain ⟨j, hj, rfl, hR⟩ := hrel
    clear HR0
    by_cases hlj : j < n
    · obtain ⟨b, off, H, e, rfl, _, _, _, c0, ih⟩ := hR.out.1.at_ hlj
      obtain ⟨b', off', H', e', rfl, _, _, _, c0', ih'⟩ := hR.out.2.1.at_ hlj
      have IH := Lib.hid ih
      have IH' := Lib.hid ih'
      clear ih ih'
      generalize blAt xss j = xs at *
      go_wp2
      go_still_tail 8, (by kernel_rfl)
      change wpList _ _ _ _ _ wr.drew
      go_wp2_with fail
      ((with_reducible refine (eqBoolS _ _ _ _ _ _ _ _ _ _ xs xs _ (bls_dr IH.out) (bls_dr IH'.out)).mono ?_); rintro e w1 ⟨rfl, q, rfl⟩)
      rw [decide_eq_true rfl]
      have HR2 : Hid (EqRelB l1 h1 l2 h2 w (wr.drewN (1 + q)) (some ⟨b, off, none⟩) (some ⟨b', off', none⟩) n c d xss) := by
        obtain ⟨r1, r2, q2, r3⟩ := hR.out
        exact ⟨r1, r2, q2 + (1 + q), by rw [r3, World.drewN_drewN]⟩
      clear hR
      go_wp2
      go_roundw
      case rel => exact ⟨j + 1, by omega, by go_num, HR2.out⟩
      case measure => simp [intOf]; omega
    · go_wp2
      go_ret
      exact ⟨rfl, hR.out.2.2⟩
set_option maxRecDepth 20000 in
theorem szBoolS (A : Option Addr) (n c : Nat) (left : Int) (w : World) (hn : n ≤ maxLen) (h0 : 0 ≤ left) (h1 : left ≤ 10000000) :
    Calls Try.prog 45 #[.slice A n c, .int .i64 left] w fun e w' => e = .returned (.int .i64 (if (n : Int) ≤ left then left - n else -1)) ∧ w = w' := by
  unfold maxLen at hn
  by_cases h : (n : Int) ≤ left
  · rw [if_pos h]
    go_enter Try.func45, Try.ntmps45
    go_wp2
    go_ret
    exact ⟨rfl, rfl⟩
  · rw [if_neg h]
    go_enter Try.func45, Try.ntmps45
    go_wp2
    go_ret
    exact ⟨rfl, rfl⟩
set_option maxRecDepth 20000 in
set_option maxHeartbeats 1000000 in
theorem szBoolSS (lo hi : Nat) (A : Option Addr) (n c : Nat) (xss : List (List Bool)) (w : World) (hx : Bts lo hi w A n c xss) :
    Calls Try.prog 24 #[.slice A n c, .int .i64 1048576] w fun e w' => (∃ v : Int, e = .returned (.int .i64 v) ∧ (v < 0 ∨ (0 ≤ v ∧ n + totB xss ≤ 1048576))) ∧ w = w' := by
  have hc1 := hx.max_
  have hc2 := hx.cap_
  have HL := Lib.hid hx.len_
  unfold maxLen at hc1
  have HX := Lib.hid hx
  clear hx
  by_cases hb : (n : Int) ≤ 1048576
  case neg =>
    go_enter Try.func24, Try.ntmps24
    go_wp2
    go_ret
    exact ⟨⟨-1, rfl, .inl (by omega)⟩, rfl⟩
  go_enter Try.func24, Try.ntmps24
  go_wp2
  go_loop [1, 5] (fun q i => ∃ j : Nat, j ≤ n ∧ i = .int .i64 j ∧ q = .int .i64 (1048576 - n - totB (xss.take j)) ∧ (totB (xss.take j) : Int) ≤ 1048576 - n) (fun _ i => n - (intOf i).toNat)
  case atStart => exact ⟨0, Nat.zero_le _, rfl, by simp [totB], by simp [totB]; omega⟩
  case round =>
    obtain ⟨j, hj, rfl, rfl, hT⟩ := hrel
    by_cases hlt : j < n
    · have hjx : j < xss.length := by rw [HL.out]; exact hlt
      obtain ⟨b, off, B, e, rfl, _, _, _, cB, ih⟩ := HX.out.at_ hlt
      have hm1 : (blAt xss j).length ≤ maxLen := Nat.le_trans ih.2.1 ih.2.2.1
      have htk := totB_take hjx
      clear ih
      generalize blAt xss j = xs at *
      go_wp2_with fail
      ((with_reducible refine (szBoolS _ _ _ (1048576 - (n : Int) - totB (xss.take j)) _ hm1 (by omega) (by omega)).mono ?_); rintro e w1 ⟨rfl, rfl⟩)
      by_cases h2 : (xs.length : Int) ≤ 1048576 - n - totB (xss.take j)
      · rw [if_pos h2]
        have e1 : 1048576 - (n : Int) - ↑(totB (xss.take j)) - ↑xs.length = 1048576 - (n : Int) - ↑(totB (xss.take (j + 1))) := by omega
        rw [e1]
        have hq2 : (0 : Int) ≤ 1048576 - (n : Int) - ↑(totB (xss.take (j + 1))) := by omega
        have HQ := Lib.hid hq2
        have hd : decide (1048576 - (n : Int) - ↑(totB (xss.take (j + 1))) < 0) = false := by simp; omega
        clear e1 htk h2 hT hm1
        go_wp2
        go_round
        case rel => exact ⟨j + 1, by omega, by go_num, rfl, by have := HQ.out; omega⟩
        case measure => simp [intOf]; omega
      · rw [if_neg h2]
        go_wp2
        go_ret
        exact ⟨⟨-1, rfl, .inl (by omega)⟩, rfl⟩
    · obtain rfl : j = n := by omega
      rw [List.take_of_length_le (by rw [HL.out]; exact Nat.le_refl _)] at *
      go_wp2
      go_ret
      exact ⟨⟨_, rfl, .inr ⟨by omega, by omega⟩⟩, rfl⟩
theorem bk_own {lo hi : Nat} {w : World} {A : Option Addr} {c : Nat} {xs : List Bool} (h : Blo lo hi w A xs.length c xs) : ∃ g, BkO w ⟨xs, A, c, g⟩ ∧ ∀ y ∈ fpb ⟨xs, A, c, g⟩, lo ≤ y ∧ y < hi := by
  rcases Nat.eq_zero_or_pos xs.length with hz | hz
  · refine ⟨0, ⟨⟨rfl, h.1.2.1, h.1.2.2.1, fun hn => absurd (show 0 < xs.length from hn) (by omega)⟩, fun _ _ hn => absurd (show 0 < xs.length from hn) (by omega)⟩, fun y hy => ?_⟩
    have := (mem_fp.1 hy).1
    dsimp only at this
    omega
  · obtain ⟨b, off, e, q1, q2, q3, q4⟩ := h.1.2.2.2 hz
    refine ⟨b, ⟨⟨rfl, h.1.2.1, h.1.2.2.1, fun _ => ⟨b, off, e, Nat.le_refl _, Nat.lt_succ_self _, q3, q4⟩⟩, h.2⟩, fun y hy => ?_⟩
    have := (mem_fp.1 hy).2
    dsimp only at this
    omega
def partB (xss : List (List Bool)) (n j : Nat) : List (List Bool) := xss.take j ++ List.replicate (n - j) []
theorem partB_step {xss : List (List Bool)} {n j : Nat} (hl : xss.length = n) (hj : j < n) : (partB xss n j).set j (blAt xss j) = partB xss n (j + 1) := by
  unfold partB
  have h1 : (xss.take j).length = j := by rw [List.length_take]; omega
  rw [List.set_append_right _ _ (by omega), h1, Nat.sub_self]
  obtain ⟨m, hm⟩ : ∃ m, n - j = m + 1 := ⟨n - j - 1, by omega⟩
  rw [hm, List.replicate_succ, List.set_cons_zero, show n - (j + 1) = m by omega, ← takeB_slot (by omega), List.append_assoc]
  rfl
theorem partB_all {xss : List (List Bool)} {n : Nat} (hl : xss.length = n) : partB xss n n = xss := by
  unfold partB
  rw [Nat.sub_self, List.take_of_length_le (by omega)]; simp
theorem madeB_nil (n : Nat) : (madeCells (Value.cells (.slice none 0 0)) (n * 1)).toList = (List.replicate n (⟨[], none, 0, 0⟩ : Bk)).map Bk.cell := by
  refine List.ext_getElem? fun i => ?_
  rw [List.map_replicate]
  by_cases hi : i < n
  · rw [List.getElem?_replicate, if_pos hi]
    simp [madeCells, Value.cells, hi, Nat.mod_one]
    rfl
  · rw [List.getElem?_eq_none (by rw [Array.length_toList, size_madeCells]; omega), List.getElem?_eq_none (by simp; omega)]
def TRelB (w wr : World) (A : Option Addr) (n c : Nat) (xss : List (List Bool)) (j : Nat) : Prop :=
  Below w.heap.size w wr ∧ ∃ G, BtsO wr A n c (partB xss n j) G ∧ Within w.heap.size wr.heap.size G
/-- Slots in new memory. -/
def NewBS (xss : List (List Bool)) (w : World) (e : Ending) (w' : World) : Prop :=
  ∃ A c G, e = .returned (.slice A xss.length c) ∧ BtsO w' A xss.length c xss G ∧ Within w.heap.size w'.heap.size G ∧ Below w.heap.size w w'
set_option maxRecDepth 20000 in
set_option maxHeartbeats 1000000 in
theorem toBoolSS (lo hi : Nat) (A : Option Addr) (n c : Nat) (xss : List (List Bool)) (w : World) (hx : Bts lo hi w A n c xss) (hn : n + totB xss ≤ 1048576) :
    Calls Try.prog 25 #[.slice A n c] w (NewBS xss w) := by
  have hc1 := hx.max_
  have hc2 := hx.cap_
  have HL := Lib.hid hx.len_
  unfold maxLen at hc1
  obtain ⟨i0, e1, e2, e3, e4⟩ := el_parts elBk
  obtain ⟨w2, hmk, how, hgr⟩ := run_make_full (P := Try.prog) (w := w) w.heap.size 23 52 i0 _ 1 elBk.under e1 e2 e3 .i64 .i64 n (by rw [e4]; omega) (by unfold maxLen; omega) (Nat.le_refl _)
  rw [madeB_nil] at how
  have hac : AccV 52 1 w.heap.size w2 (.slice (some ⟨w.heap.size, 0, none⟩) n n) n ((List.replicate n (⟨[], none, 0, 0⟩ : Bk)).map Bk.cell) := ⟨n, rfl, how⟩
  have hb2 : Below w.heap.size w w2 := ⟨hgr.os, hgr.tape, hgr.output, hgr.size, fun z hz => hgr.block z hz (by simp)⟩
  obtain ⟨cap, ec, hrow⟩ := hac.row
  simp only [Value.slice.injEq, true_and] at ec
  subst ec
  have hfp : (List.replicate n (⟨[], none, 0, 0⟩ : Bk)).map fpb = List.replicate n [] := by rw [List.map_replicate]; rfl
  have HT0 : Hid (TRelB w w2 (some ⟨w.heap.size, 0, none⟩) n n xss 0) := by
    refine ⟨hb2, _, ⟨w.heap.size, List.replicate n ⟨[], none, 0, 0⟩, by unfold partB; rw [List.map_replicate]; simp, hrow, fun s hs => ?_, rfl, ?_⟩, ?_⟩
    · obtain rfl := List.eq_of_mem_replicate hs
      exact Blo.nil_ (Nat.zero_le _)
    · unfold Foot
      rw [hfp, List.pairwise_cons]
      refine ⟨fun f hf x _ q2 => ?_, ?_⟩
      · rw [List.eq_of_mem_replicate hf] at q2; simp at q2
      · rw [List.pairwise_replicate]
        exact .inr fun x q1 _ => by simp at q1
    · intro f hf x hx
      rcases List.mem_cons.1 hf with rfl | hf
      · have := (mem_fp.1 hx).2
        have := hac.lt
        omega
      · rw [hfp] at hf
        rw [List.eq_of_mem_replicate hf] at hx; simp at hx
  have HX := Lib.hid (hx.top (Nat.zero_le _))
  clear how hgr hac hb2 hrow hfp e1 e2 e3 e4 hx
  go_enter Try.func25, Try.ntmps25
  go_wp2
  go_loopw [4] (fun i wr => ∃ j : Nat, j ≤ n ∧ i = .int .i64 (j : Nat) ∧ Hid (TRelB w wr (some ⟨w.heap.size, 0, none⟩) n n xss j)) (fun i _ => n - (intOf i).toNat)
  case atStart => exact ⟨0, Nat.zero_le _, rfl, HT0.out⟩
  case round =>
    obtain ⟨j, hj, rfl, hT⟩ := hrel
    clear HT0
    by_cases hlj : j < n
    · have HXr := Lib.hid (HX.out.below hT.out.1 (Nat.le_refl _))
      obtain ⟨b, off, B, d, rfl, _, _, hbz, cB, iB⟩ := HXr.out.at_ hlj
      have IB := Lib.hid iB
      have hle : (blAt xss j).length ≤ 10000000 := by
        have h1 := totB_take (xss := xss) (j := j) (by rw [HL.out]; exact hlj)
        have h2 := totB_le (xss := xss) (j + 1)
        omega
      have HST : Hid (∀ A4 c4 w4, Blo wr.heap.size w4.heap.size w4 A4 (blAt xss j).length c4 (blAt xss j) → Below wr.heap.size wr w4 → (w4.cell? ⟨w.heap.size, j, none⟩).isSome = true ∧ w4.frozen? ⟨w.heap.size, j, none⟩ = false ∧ TRelB w (w4.setCell ⟨w.heap.size, j, none⟩ (.slice A4 (blAt xss j).length c4)) (some ⟨w.heap.size, 0, none⟩) n n xss (j + 1)) := fun A4 c4 w4 ho4 hb4 => by
        obtain ⟨hbw, G, hst, hG⟩ := hT.out
        obtain ⟨b9, off9, H9, e9, q0, q1, ⟨f9, hf9, hbf9⟩, q3, q4, q5⟩ := setNB hst hlj
        simp only [Option.some.injEq, Addr.mk.injEq, and_true] at q0
        obtain ⟨rfl, rfl⟩ := q0
        rw [Nat.zero_add] at q3 q4 q5
        obtain ⟨g, hsk, hsf⟩ := bk_own ho4
        obtain ⟨G', h1, h2⟩ := q5 w4 ⟨blAt xss j, A4, c4, g⟩ hb4.size (fun f hf y hy => hb4.block y (hG f hf y hy).2) hsk hsf
        rw [show (⟨blAt xss j, A4, c4, g⟩ : Bk).xs = blAt xss j from rfl, partB_step HL.out hlj] at h1
        have hsz : (w4.setCell ⟨w.heap.size, j, none⟩ (.slice A4 (blAt xss j).length c4)).heap.size = w4.heap.size := by simp [World.setCell]
        have hs4 := hb4.size
        refine ⟨by rw [(hb4.cell (p := ⟨w.heap.size, j, none⟩) q1).trans q3]; rfl, (World.frozen?_of_block (a := ⟨w.heap.size, j, none⟩) (hb4.block _ q1)).trans q4, (hbw.trans (hb4.mono hbw.size)).setCell (p := ⟨w.heap.size, j, none⟩) (Nat.le_refl _) _, G', h1, fun f hf y hy => ?_⟩
        rw [hsz]
        have hbs := hbw.size
        rcases h2 f hf y hy with ⟨g2, hg2, hyg⟩ | hyf
        · have := hG g2 hg2 y hyg; omega
        · have := hsf y hyf; omega
      clear iB hT HXr
      generalize blAt xss j = xs at *
      go_wp2_with fail
      ((with_reducible refine (toBoolS _ _ _ _ _ xs _ IB.out (by have := IB.out.len_; omega)).mono ?_); rintro e w4 ⟨A4, c4, rfl, ho4, hb4⟩)
      obtain ⟨p1, p2, p3⟩ := HST.out A4 c4 w4 ho4 hb4
      obtain ⟨pv, pc⟩ := Option.isSome_iff_exists.1 p1
      have HN := Lib.hid p3
      clear p1 p3 ho4 hb4 HST
      go_wp2
      go_roundw
      case rel => exact ⟨j + 1, by omega, by go_num, HN.out⟩
      case measure => simp [intOf]; omega
    · obtain rfl : j = n := by omega
      obtain ⟨hbw, G, hst, hG⟩ := hT.out
      rw [partB_all HL.out] at hst
      have HP : Hid (NewBS xss w (.returned (.slice (some ⟨w.heap.size, 0, none⟩) j j)) wr) := by
        have hl := HL.out
        subst hl
        exact ⟨_, _, G, rfl, hst, hG, hbw⟩
      clear hst hG hbw hT
      go_wp2
      go_ret
      exact HP.out

end Hb
end Go.Proofs.Ytjfonmaandnbhab
