/-
  Several parts of the proof in one text.
-/
import Derived.Test.YtdngdmhepjjeeabIm5
import Derived.Test.YtdngdmhepjjeeabPl
import Derived.Test.YtdngdmhepjjeeabPq
import Derived.Deep.RegionLaw
import Derived.Deep.LoopGhost
import Derived.Laws.ResultCell
import Derived.BigQuiet
/-
  Contracts of the program's layers: linked blocks, their filler, their headers, the masked body.
-/
namespace Go.Proofs.Ytdngdmhepjjeeab
open Go.RowKit
namespace Im5
open Il Gm Mm Tm Lm Pm Pn Pq Im2 Im3 Im4
open Sp5 (HdrPost)
open Sp4 (lenOf)

/-- Layers lie linked in memory, each in a block of its own. -/
def Chain (w : World) : Option Addr → List (Int × Int) → Prop
  | a, [] => a = none
  | a, p :: L => ∃ b u, a = some ⟨b, 0, none⟩ ∧ w.heap[b]? = some (.cells #[.int .i64 p.1, .int .i64 p.2, .pointer u] 85 (0, 0)) ∧ Chain w u L
theorem Chain.below {w w' : World} {B : Nat} (hb : Below B w w') (hB : w.heap.size ≤ B) {a : Option Addr} {L : List (Int × Int)} (h : Chain w a L) : Chain w' a L := by
  induction L generalizing a with
  | nil => exact h
  | cons p L ih =>
    obtain ⟨b, u, e, hh, hc⟩ := h
    have hlt := (Array.getElem?_eq_some_iff.1 hh).1
    exact ⟨b, u, e, (hb.block b (by omega)).trans hh, ih hc⟩
theorem Chain.new_ {w : World} {u : Option Addr} {L : List (Int × Int)} (h : Chain w u L) (k x : Int) : Chain (w.alloc (.cells #[.int .i64 k, .int .i64 x, .pointer u] 85)) (some ⟨w.heap.size, 0, none⟩) ((k, x) :: L) :=
  ⟨w.heap.size, u, rfl, heap_alloc_new _ _, Chain.below (B := w.heap.size) ((Below.refl _ _).alloc (Nat.le_refl _) _) (Nat.le_refl _) h⟩
/-- The cells of the first layer. -/
theorem Chain.cells {w : World} {a : Option Addr} {k x : Int} {L : List (Int × Int)} (h : Chain w a ((k, x) :: L)) : ∃ b u, a = some ⟨b, 0, none⟩ ∧ b < w.heap.size ∧ w.cell? ⟨b, 0, none⟩ = some (.int .i64 k) ∧ w.cell? ⟨b, 1, none⟩ = some (.int .i64 x) ∧ w.cell? ⟨b, 2, none⟩ = some (.pointer u) ∧ Hid (Chain w u L) := by
  obtain ⟨b, u, e, hh, hc⟩ := h
  refine ⟨b, u, e, (Array.getElem?_eq_some_iff.1 hh).1, ?_, ?_, ?_, hc⟩
  · rw [cell_of_row _ _ _ _ _ _ hh]; rfl
  · rw [cell_of_row _ _ _ _ _ _ hh]; rfl
  · rw [cell_of_row _ _ _ _ _ _ hh]; rfl
def ChainPost (L : List (Int × Int)) (w : World) (e : Ending) (w' : World) : Prop := ∃ a, e = .returned (.pointer a) ∧ Chain w' a L ∧ Below w.heap.size w w'

set_option maxRecDepth 20000 in
theorem layersOf (l1 h1 l2 h2 : Nat) (A B : Option Addr) (n c m d : Nat) (ks ns : List Int) (r : Int) (w : World) (hx : Ints l1 h1 w A n c ks) (hy : Ints l2 h2 w B m d ns) (hnm : n ≤ m) (hn : n ≤ 3) :
    Calls Try.prog 52 #[.slice A n c, .slice B m d, .int .i64 r] w (ChainPost (layL ks ns r) w) := by
  have hc1 := hx.2.1
  have hc2 := hy.2.1
  have hc3 := hy.2.2.1
  unfold maxLen at hc3
  have HX := Lib.hid hx
  have HY := Lib.hid hy
  have HL := Lib.hid hx.1
  have HC0 : Hid (Chain w none (layL (ks.drop n) (ns.drop n) r) ∧ Below w.heap.size w w) := by
    refine ⟨?_, Below.refl _ _⟩
    rw [List.drop_eq_nil_of_le (by rw [hx.1]; exact Nat.le_refl _)]
    rfl
  have HN0 : Hid (r = nxAt ns n r n) := by show r = _; unfold nxAt; rw [if_pos rfl]
  clear hx hy
  go_enter Try.func52, Try.ntmps52
  go_wp2
  go_loopw [7, 8, 9] (fun v x i wr => ∃ (s : Nat) (u : Option Addr), s ≤ n ∧ i = .int .i64 ((s : Int) - 1) ∧ v = .pointer u ∧ x = .int .i64 (nxAt ns n r s) ∧ Hid (Chain wr u (layL (ks.drop s) (ns.drop s) r) ∧ Below w.heap.size w wr)) (fun _ _ i _ => (intOf i + 1).toNat)
  case atStart => exact ⟨n, none, Nat.le_refl _, rfl, rfl, by rw [← HN0.out], HC0.out⟩
  case round =>
    obtain ⟨s, u, hs, rfl, rfl, rfl, hT⟩ := hrel
    clear HC0 HN0
    cases s with
    | zero =>
      rw [show (((0 : Nat) : Int) - 1) = -1 from rfl]
      have HP : Hid (ChainPost (layL ks ns r) w (.returned (.pointer u)) wr) := ⟨u, rfl, hT.out.1, hT.out.2⟩
      clear hT
      go_wp2
      go_ret
      exact HP.out
    | succ s =>
      rw [show (((s + 1 : Nat) : Int) - 1) = (s : Int) from by omega]
      obtain ⟨b, off, rfl, _, _, hcx⟩ := HX.out.at_ (k := s) (by omega)
      obtain ⟨b2, off2, rfl, _, _, hcy⟩ := HY.out.at_ (k := s) (by omega)
      have hb3 : b < w.heap.size := World.block_lt_of_cell? w _ hcx
      have hb4 : b2 < w.heap.size := World.block_lt_of_cell? w _ hcy
      have ck := (hT.out.2.cell (p := ⟨b, off + s, none⟩) hb3).trans hcx
      have HBA := Lib.hid (hT.out.2.alloc hT.out.2.size (.cells #[.int .i64 (ks.getD s 0), .int .i64 (nxAt ns n r (s + 1)), .pointer u] 85))
      have cn := (HBA.out.cell (p := ⟨b2, off2 + s, none⟩) hb4).trans hcy
      have HCH := Lib.hid (hT.out.1.new_ (ks.getD s 0) (nxAt ns n r (s + 1)))
      have HST : Hid (layL (ks.drop s) (ns.drop s) r = (ks.getD s 0, nxAt ns n r (s + 1)) :: layL (ks.drop (s + 1)) (ns.drop (s + 1)) r) := by
        have := layL_step (ks := ks) (ns := ns) (r := r) (s := s) (by rw [HL.out]; omega)
        rw [HL.out] at this
        exact this
      rw [← HST.out] at HCH
      have HNX : Hid (ns.getD s 0 = nxAt ns n r s) := by show _ = _; unfold nxAt; rw [if_neg (by omega)]
      rw [HNX.out] at cn
      have hlt1 : (s : Int) < (n : Int) := by omega
      have hlt2 : (s : Int) < (m : Int) := by omega
      generalize ks.getD s 0 = k at ck HBA HCH cn
      generalize nxAt ns n r (s + 1) = x at HBA HCH cn ⊢
      generalize hye : nxAt ns n r s = y at cn
      have HYE := Lib.hid hye
      clear hye
      clear hT hcx hcy HST HNX
      go_wp2
      go_roundw
      case rel => exact ⟨s, _, by omega, rfl, rfl, by rw [HYE.out], HCH.out, HBA.out⟩
      case measure => simp [intOf]

def IntsPost (xs : List Int) (w : World) (e : Ending) (w' : World) : Prop :=
  ∃ A c, e = .returned (.slice A xs.length c) ∧ Ints w.heap.size w'.heap.size w' A xs.length c xs ∧ Below w.heap.size w w'
def LoopRel (w wr : World) (L : List (Int × Int)) (s : Nat) (a : Option Addr) (A : Option Addr) (m c : Nat) : Prop :=
  Chain wr a (L.drop s) ∧ Ints w.heap.size wr.heap.size wr A m c (fillAt (L.map Prod.fst) s) ∧ Below w.heap.size w wr

set_option maxRecDepth 100000 in
theorem filler (a : Option Addr) (L : List (Int × Int)) (w : World) (hc : Chain w a L) (hg : ∀ p ∈ L, inG p.1 = true) (h1 : 1 ≤ L.length) (h3 : L.length ≤ 3) :
    Calls Try.prog 54 #[.pointer a] w (IntsPost (fillF (L.map Prod.fst)) w) := by
  have HG := Lib.hid hg
  have HR0 : Hid (LoopRel w (w.alloc (.cells #[] 3)) L 0 a (some ⟨w.heap.size, 0, none⟩) 0 0) :=
    ⟨Chain.below (B := w.heap.size) ((Below.refl _ _).alloc (Nat.le_refl _) _) (Nat.le_refl _) hc, Ints.nil_ (Nat.zero_le _), (Below.refl _ _).alloc (Nat.le_refl _) _⟩
  clear hc hg
  go_enter Try.func54, Try.ntmps54
  go_wp2
  go_loopw [0, 3] (fun v f wr => ∃ (s : Nat) (a A : Option Addr) (m c : Nat), s + 1 ≤ L.length ∧ v = .pointer a ∧ f = .slice A m c ∧ m = 3 * s ∧ Hid (LoopRel w wr L s a A m c)) (fun _ f _ => 9 - lenOf f)
  case atStart => exact ⟨0, a, _, 0, 0, h1, rfl, rfl, rfl, HR0.out⟩
  case round =>
    obtain ⟨s, a, A, m, c, hs, rfl, rfl, hm, hT⟩ := hrel
    clear HR0
    obtain ⟨k, x, L2, hL⟩ : ∃ k x L2, L.drop s = (k, x) :: L2 := by
      rw [List.drop_eq_getElem_cons (by omega)]
      exact ⟨_, _, _, rfl⟩
    have hch := hT.out.1
    rw [hL] at hch
    obtain ⟨b, u, rfl, hb, c0, c1, c2, hc2⟩ := hch.cells
    have hL2 : L.drop (s + 1) = L2 := by
      have := congrArg List.tail hL
      rwa [List.tail_drop] at this
    by_cases hlt : s + 1 < L.length
    · obtain ⟨p, L3, rfl⟩ : ∃ p L3, L2 = p :: L3 := by
        rw [← hL2, List.drop_eq_getElem_cons hlt]
        exact ⟨_, _, rfl⟩
      obtain ⟨b2, u2, rfl, hh2, hc3⟩ := hc2.out
      have HC2 : Hid (Chain wr (some ⟨b2, 0, none⟩) (L.drop (s + 1))) := by rw [hL2]; exact ⟨b2, u2, rfl, hh2, hc3⟩
      have hmem : (k, x) ∈ L := List.mem_of_mem_drop (by rw [hL]; simp)
      have hkg := HG.out _ hmem
      have HKG : Hid (inG k = true) := hkg
      have hkl : s < (L.map Prod.fst).length := by simp; omega
      have hkk : (L.map Prod.fst).getD s 0 = k := by
        rw [List.getD_eq_getElem?_getD, List.getElem?_map, ← List.head?_drop, hL]; rfl
      have HF : Hid (fillAt (L.map Prod.fst) (s + 1) = fillStep (fillAt (L.map Prod.fst) s) k) := by
        show _ = _
        rw [fillAt_succ hkl, hkk]
      have HFI := Lib.hid (fillAt_in (L.map Prod.fst) s)
      have HI := Lib.hid hT.out.2.1
      have HBW := Lib.hid hT.out.2.2
      have HFL : Hid ((fillAt (L.map Prod.fst) s).length = m) := hT.out.2.1.1
      have hb9 : Below wr.heap.size wr (wr.alloc (.cells (vals (zeros 9)).toArray 3)) := (Below.refl _ _).alloc (Nat.le_refl _) _
      have HX1 := Lib.hid (HI.out.below hb9 (Nat.le_refl _))
      have hmk := run_make_row' (P := Try.prog) 22 3 (.int .i64 0) 8 Try.underlying22 infoInt rfl .i64 .i64 9 (by omega) (by omega)
      rw [made_zeros 9] at hmk
      have hmk2 : ∀ w : World, (Instr.makeSlice 22 (.int .i64 9) (.int .i64 9)).run Try.prog w = .ok (.slice (some ⟨w.heap.size, 0, none⟩) 9 9) (w.alloc (.cells (vals (zeros 9)).toArray 3)) := hmk
      generalize fillAt (L.map Prod.fst) s = F at HF HFI HI HFL HX1
      have d0 := fun o : Obj => (Below.refl wr.heap.size wr).alloc (Nat.le_refl _) o |>.cell (p := ⟨b, 0, none⟩) hb |>.trans c0
      clear hch hc2 hL hL2 hh2 hc3 hT hmk hmem hkl hkk hkg
      have hfit : 9 - m + F.length ≤ 9 := by rw [HFL.out]; omega
      have HLZ : Hid (splice (vals (zeros 9)) (9 - m) (vals F) = vals (List.replicate (9 - m) 0 ++ F)) := by
        show _ = _
        rw [splice_zeros (n := m) HFL.out (by omega)]
        have : 9 - (9 - m + m) = 0 := by omega
        rw [this, List.replicate_zero, List.append_nil]
        rfl
      have HFE := Lib.hid (fill_eq k HFL.out (by omega))
      have HOK : Hid (okL ((List.replicate (9 - m) 0 ++ F) ++ [0, 0, 0]) = true) := by
        refine okL_iff.2 ⟨fun y hy => ?_, ?_⟩
        · rcases List.mem_append.1 hy with h | h
          · rcases List.mem_append.1 h with h | h
            · have := (List.mem_replicate.1 h).2; omega
            · exact HFI.out y h
          · simp at h; omega
        · simp [HFL.out]; omega
      have HLEN : Hid ((List.replicate (9 - m) (0 : Int) ++ F).length = 9) := by show _ = _; simp [HFL.out]; omega
      obtain ⟨rfl, rfl⟩ | ⟨rfl, rfl⟩ : (s = 0 ∧ m = 0) ∨ (s = 1 ∧ m = 3) := by omega
      · clear hm d0 hfit hs h1 h3
        have HB9 := Lib.hid hb9
        clear hb9
        go_wp2_with (with_reducible refine wpList_copy_splice rfl _ _ _ _ rfl 3 underInts sizeInt _ _ _ _ _ _ rfl rfl wr.heap.size 9 (vals (zeros 9)) 3 ?hg (vals F) ?hn ?hpos ?hfit ?h1 wr.heap.size wr ?hb ?hBg ?h)
        case hg => exact heap_alloc_new wr _
        case hn => simp only [vals, List.length_map, HFL.out]; rfl
        case hpos =>
          intro hpos
          have hn0 : 0 < F.length := by simpa [vals] using hpos
          exact absurd HFL.out (by omega)
        case hfit => simp only [vals, List.length_map, HFL.out, zeros_len]; omega
        case h1 => intro v hv; obtain ⟨y, _, rfl⟩ := List.mem_map.1 hv; rfl
        case hb => exact HB9.out
        case hBg => exact Nat.le_refl _
        case h =>
        intro w1 hg1 hB1
        have hg2 : w1.heap[wr.heap.size]? = some (.cells (vals (List.replicate 9 0 ++ F)).toArray 3 (0, 0)) := by
          have h := hg1.out
          rw [show splice (vals (zeros 9)) 9 (vals F) = vals (List.replicate 9 0 ++ F) from HLZ.out] at h
          exact h
        have ho := own_block hg2 (by rw [show (List.replicate 9 (0 : Int) ++ F).length = 9 from HLEN.out]; simp [maxLen])
        rw [show (List.replicate 9 (0 : Int) ++ F).length = 9 from HLEN.out] at ho
        have HO := Lib.hid ho
        have HB1 := Lib.hid hB1
        have d0 := (hB1.cell (p := ⟨b, 0, none⟩) hb).trans c0
        have d2 := (hB1.cell (p := ⟨b, 2, none⟩) hb).trans c2
        have hl12 : (offF ((List.replicate 9 0 ++ F) ++ List.replicate (12 - 9) 0) k).length = 12 := by
          have e0 := offF_yes HOK.out HKG.out
          have e1 : offF ((List.replicate 9 0 ++ F) ++ List.replicate (12 - 9) 0) k = _ := e0
          rw [e1, offL_len]
          simp [HFL.out]
        have HE : Hid ((offF ((List.replicate 9 0 ++ F) ++ List.replicate (12 - 9) 0) k).drop 9 = fillStep F k) := by
          have e1 : offF ((List.replicate 9 0 ++ F) ++ List.replicate (12 - 9) 0) k = _ := offF_yes HOK.out HKG.out
          show _ = _
          rw [e1]
          exact HFE.out
        clear hg1 hg2 hB1 ho hmk2 c0 c2 HB9 HX1
        go_wp2_with fail
        ((with_reducible refine (unmaskHeader _ _ _ _ _ (List.replicate 9 0 ++ F) k w1 HO.out.ints (by omega)).mono ?_); rintro e w2 ⟨A2, rfl, ho2, hb2⟩)
        rw [hl12] at ho2 ⊢
        obtain ⟨b6, off6, rfl, _⟩ := ho2.ints.at_ (k := 0) (by omega)
        have hsub := ho2.ints.sub_ (k := 9) (m := 3) (by omega)
        rw [HE.out, List.take_of_length_le (by rw [fillStep_len, HFL.out]; omega), ← HF.out] at hsub
        have hbw := HB1.out.trans (hb2.mono HB1.out.size)
        have HN : Hid (LoopRel w w2 L (0 + 1) (some ⟨b2, 0, none⟩) (some ⟨b6, off6 + 9, none⟩) 3 (12 - 9)) :=
          ⟨Chain.below hbw (Nat.le_refl _) HC2.out, hsub.mono (by have := HBW.out.size; have := HB1.out.size; omega) (Nat.le_refl _), HBW.out.trans (hbw.mono HBW.out.size)⟩
        have e2 := (hb2.cell (p := ⟨b, 2, none⟩) (show b < w1.heap.size by have := HB1.out.size; omega)).trans d2
        clear ho2 hb2 hsub hbw HO HB1 d0 d2 HE hl12
        go_wp2
        go_roundw
        case rel => exact ⟨0 + 1, _, _, 3, _, hlt, rfl, rfl, rfl, HN.out⟩
        case measure => simp [lenOf]
      · clear hm d0 hfit hs h1 h3
        have HB9 := Lib.hid hb9
        clear hb9
        go_wp2_with (with_reducible refine wpList_copy_splice rfl _ _ _ _ rfl 3 underInts sizeInt _ _ _ _ _ _ rfl rfl wr.heap.size 6 (vals (zeros 9)) 3 ?hg (vals F) ?hn ?hpos ?hfit ?h1 wr.heap.size wr ?hb ?hBg ?h)
        case hg => exact heap_alloc_new wr _
        case hn => simp only [vals, List.length_map, HFL.out]; rfl
        case hpos =>
          intro hpos
          have hn0 : 0 < F.length := by simpa [vals] using hpos
          obtain ⟨b5, off5, e5, _, _, hz5, hc5⟩ := HX1.out.2.2.2 (by omega)
          subst e5
          refine ⟨_, rfl, fun j v hv => ?_⟩
          have hj : j < F.length := by
            have := (List.getElem?_eq_some_iff.1 hv).1
            simpa [vals] using this
          rw [Addr.add_mid, hc5 j (by rw [← HFL.out]; exact hj)]
          simp only [vals, List.getElem?_map, Option.map_eq_some_iff] at hv
          obtain ⟨y, hy, rfl⟩ := hv
          rw [List.getD_eq_getElem?_getD, hy]; rfl
        case hfit => simp only [vals, List.length_map, HFL.out, zeros_len]; omega
        case h1 => intro v hv; obtain ⟨y, _, rfl⟩ := List.mem_map.1 hv; rfl
        case hb => exact HB9.out
        case hBg => exact Nat.le_refl _
        case h =>
        intro w1 hg1 hB1
        have hg2 : w1.heap[wr.heap.size]? = some (.cells (vals (List.replicate 6 0 ++ F)).toArray 3 (0, 0)) := by
          have h := hg1.out
          rw [show splice (vals (zeros 9)) 6 (vals F) = vals (List.replicate 6 0 ++ F) from HLZ.out] at h
          exact h
        have ho := own_block hg2 (by rw [show (List.replicate 6 (0 : Int) ++ F).length = 9 from HLEN.out]; simp [maxLen])
        rw [show (List.replicate 6 (0 : Int) ++ F).length = 9 from HLEN.out] at ho
        have HO := Lib.hid ho
        have HB1 := Lib.hid hB1
        have d0 := (hB1.cell (p := ⟨b, 0, none⟩) hb).trans c0
        have d2 := (hB1.cell (p := ⟨b, 2, none⟩) hb).trans c2
        have hl12 : (offF ((List.replicate 6 0 ++ F) ++ List.replicate (12 - 9) 0) k).length = 12 := by
          have e0 := offF_yes HOK.out HKG.out
          have e1 : offF ((List.replicate 6 0 ++ F) ++ List.replicate (12 - 9) 0) k = _ := e0
          rw [e1, offL_len]
          simp [HFL.out]
        have HE : Hid ((offF ((List.replicate 6 0 ++ F) ++ List.replicate (12 - 9) 0) k).drop 6 = fillStep F k) := by
          have e1 : offF ((List.replicate 6 0 ++ F) ++ List.replicate (12 - 9) 0) k = _ := offF_yes HOK.out HKG.out
          show _ = _
          rw [e1]
          exact HFE.out
        clear hg1 hg2 hB1 ho hmk2 c0 c2 HB9 HX1
        go_wp2_with fail
        ((with_reducible refine (unmaskHeader _ _ _ _ _ (List.replicate 6 0 ++ F) k w1 HO.out.ints (by omega)).mono ?_); rintro e w2 ⟨A2, rfl, ho2, hb2⟩)
        rw [hl12] at ho2 ⊢
        obtain ⟨b6, off6, rfl, _⟩ := ho2.ints.at_ (k := 0) (by omega)
        have hsub := ho2.ints.sub_ (k := 6) (m := 6) (by omega)
        rw [HE.out, List.take_of_length_le (by rw [fillStep_len, HFL.out]; omega), ← HF.out] at hsub
        have hbw := HB1.out.trans (hb2.mono HB1.out.size)
        have HN : Hid (LoopRel w w2 L (1 + 1) (some ⟨b2, 0, none⟩) (some ⟨b6, off6 + 6, none⟩) 6 (12 - 6)) :=
          ⟨Chain.below hbw (Nat.le_refl _) HC2.out, hsub.mono (by have := HBW.out.size; have := HB1.out.size; omega) (Nat.le_refl _), HBW.out.trans (hbw.mono HBW.out.size)⟩
        have e2 := (hb2.cell (p := ⟨b, 2, none⟩) (show b < w1.heap.size by have := HB1.out.size; omega)).trans d2
        clear ho2 hb2 hsub hbw HO HB1 d0 d2 HE hl12
        go_wp2
        go_roundw
        case rel => exact ⟨1 + 1, _, _, 6, _, hlt, rfl, rfl, rfl, HN.out⟩
        case measure => simp [lenOf]
    · have hls : s = L.length - 1 := by omega
      obtain rfl : L2 = [] := by rw [← hL2]; exact List.drop_eq_nil_of_le (by omega)
      obtain rfl : u = none := hc2.out
      have HP : Hid (IntsPost (fillF (L.map Prod.fst)) w (.returned (.slice A m c)) wr) := by
        have e := fillAt_all (keys := L.map Prod.fst) (k := s) (by simp; exact hls)
        have h2 := hT.out.2.1
        rw [e] at h2
        have hl := h2.1
        subst hl
        exact ⟨A, c, rfl, h2, hT.out.2.2⟩
      clear hT hch hc2 hL hL2 hm
      go_wp2
      go_ret
      exact HP.out

def BodyRel (w wr : World) (L : List (Int × Int)) (bd : List Int) (s : Nat) (a : Option Addr) (A : Option Addr) (c : Nat) : Prop :=
  Chain wr a (L.drop s) ∧ (∃ lo, lo ≤ wr.heap.size ∧ (0 < s → w.heap.size ≤ lo) ∧ Il.Own lo wr.heap.size wr A 6 c (((L.map Prod.fst).take s).foldl onL bd)) ∧ Below w.heap.size w wr
set_option maxRecDepth 20000 in
theorem maskBody (a : Option Addr) (L : List (Int × Int)) (lo hi : Nat) (A : Option Addr) (c : Nat) (bd : List Int) (w : World) (hc : Chain w a L) (hg : ∀ p ∈ L, inG p.1 = true) (h1 : 1 ≤ L.length) (h3 : L.length ≤ 3)
    (ho : Il.Own lo hi w A 6 c bd) (hok : okL bd = true) :
    Calls Try.prog 55 #[.pointer a, .slice A 6 c] w (NewInts w (bodyF bd (L.map Prod.fst))) := by
  have HG := Lib.hid hg
  have HOK := Lib.hid hok
  have HLN := Lib.hid ho.1.1
  have HR0 : Hid (BodyRel w w L bd 0 a A c) := ⟨hc, ⟨0, Nat.zero_le _, fun h => absurd h (by omega), (own_hi ho).mono (Nat.zero_le _) (Nat.le_refl _)⟩, Below.refl _ _⟩
  clear hc hg ho hok
  go_enter Try.func55, Try.ntmps55
  go_wp2
  go_loopg [0, 1] L.length (fun g v f wr => ∃ (s : Nat) (a A : Option Addr) (c : Nat), s + g = L.length ∧ v = .pointer a ∧ f = .slice A 6 c ∧ Hid (BodyRel w wr L bd s a A c))
  case atStart => exact ⟨0, a, _, c, by omega, rfl, rfl, HR0.out⟩
  case round =>
    obtain ⟨s, a, A, c, hs, rfl, rfl, hT⟩ := hrel
    clear HR0
    have hsl : (((L.map Prod.fst).take s).foldl onL bd).length = 6 := by
      have := body_len ((L.map Prod.fst).take s) bd
      unfold bodyF at this
      rw [this, HLN.out]
    have hso : okL (((L.map Prod.fst).take s).foldl onL bd) = true := body_ok ((L.map Prod.fst).take s) bd HOK.out
    have HSL := Lib.hid hsl
    have HSO := Lib.hid hso
    clear hsl hso
    by_cases hlt : s < L.length
    · obtain ⟨k, x, L2, hL⟩ : ∃ k x L2, L.drop s = (k, x) :: L2 := by
        rw [List.drop_eq_getElem_cons hlt]
        exact ⟨_, _, _, rfl⟩
      have hch := hT.out.1
      rw [hL] at hch
      obtain ⟨b, u, rfl, hb, c0, c1, c2, hc2⟩ := hch.cells
      have hL2 : L.drop (s + 1) = L2 := by
        have := congrArg List.tail hL
        rwa [List.tail_drop] at this
      have HC2 : Hid (Chain wr u (L.drop (s + 1))) := by show Chain _ _ _; rw [hL2]; exact hc2.out
      have hkg := HG.out _ (show (k, x) ∈ L from List.mem_of_mem_drop (by rw [hL]; simp))
      have HKG : Hid (inG k = true) := hkg
      have hkl : s < (L.map Prod.fst).length := by simp; omega
      have hkk : (L.map Prod.fst).getD s 0 = k := by
        rw [List.getD_eq_getElem?_getD, List.getElem?_map, ← List.head?_drop, hL]; rfl
      have HF : Hid (((L.map Prod.fst).take (s + 1)).foldl onL bd = onL (((L.map Prod.fst).take s).foldl onL bd) k) := by
        show _ = _
        rw [bodyTo_succ hkl, hkk]
      obtain ⟨lo0, hlo, _, hown⟩ := hT.out.2.1
      have HO := Lib.hid hown
      have HBW := Lib.hid hT.out.2.2
      generalize ((L.map Prod.fst).take s).foldl onL bd = F at HF HO HSL HSO
      have HM := Lib.hid (onF_yes HSO.out HKG.out)
      have HML : Hid ((onL F k).length = 6) := by show _ = _; rw [onL_len, HSL.out]
      clear hch hc2 hL hL2 hT hown hkg hkl hkk
      go_wp2_with fail
      ((with_reducible refine (MaskOn _ _ _ _ _ F k wr HO.out.ints).mono ?_); rintro e w2 ⟨A2, c3, rfl, ho2, hb2⟩)
      rw [HM.out, HML.out] at ho2 ⊢
      have e2 := (hb2.cell (p := ⟨b, 2, none⟩) hb).trans c2
      rw [← HF.out] at ho2
      have HN : Hid (BodyRel w w2 L bd (s + 1) u A2 c3) := ⟨Chain.below hb2 (Nat.le_refl _) HC2.out, ⟨wr.heap.size, hb2.size, fun _ => HBW.out.size, ho2⟩, HBW.out.trans (hb2.mono HBW.out.size)⟩
      clear ho2 hb2 c0 c1 c2
      go_wp2
      go_roundg (L.length - (s + 1))
      case rel => exact ⟨s + 1, u, A2, c3, by omega, rfl, rfl, HN.out⟩
      case measure => omega
    · have hL : L.drop s = [] := List.drop_eq_nil_of_le (by omega)
      have hch := hT.out.1
      rw [hL] at hch
      obtain rfl : a = none := hch
      have HP : Hid (NewInts w (bodyF bd (L.map Prod.fst)) (.returned (.slice A 6 c)) wr) := by
        obtain ⟨lo0, hlo, hls, hown⟩ := hT.out.2.1
        have e : ((L.map Prod.fst).take s).foldl onL bd = bodyF bd (L.map Prod.fst) := by
          unfold bodyF
          rw [List.take_of_length_le (by simp; omega)]
        rw [e] at hown
        have hl := HSL.out
        rw [e] at hl
        refine ⟨A, c, by rw [hl], ?_, hT.out.2.2⟩
        rw [hl]
        exact hown.mono (hls (by omega)) (Nat.le_refl _)
      clear hT hL
      go_wp2
      go_ret
      exact HP.out

end Im5
end Go.Proofs.Ytdngdmhepjjeeab

/-
  The contract of the program's headers: a method that calls itself along the layers.
-/
namespace Go.Proofs.Ytdngdmhepjjeeab
open Go.RowKit
namespace Im5
open Il Gm Mm Tm Lm Pm Pn Pq Im2 Im3 Im4
open Sp5 (HdrPost)

set_option maxHeartbeats 1000000 in
set_option maxRecDepth 20000 in
theorem header (f : List Int) (fl cf l1 h1 : Nat) (A : Option Addr) (hf6 : fl ≤ 6) (hfi : ∀ x ∈ f, 0 ≤ x ∧ x ≤ 990) (L : List (Int × Int)) :
    ∀ (p : Int × Int) (a : Option Addr) (w : World), Chain w a (p :: L) → (∀ q ∈ p :: L, inG q.1 = true ∧ inName q.2 = true) → Ints l1 h1 w A fl cf f →
      Calls Try.prog 53 #[.pointer a, .slice A fl cf] w (HdrPost (hdrL f (p :: L)) (tagL p.1 (hdrL f (p :: L))) w) := by
  induction L with
  | nil =>
    rintro ⟨k, x⟩ a w hc hg hi
    obtain ⟨b, u, rfl, hb, c0, c1, c2, hc2⟩ := hc.cells
    obtain rfl : u = none := hc2.out
    have hkg := (hg (k, x) (by simp)).1
    have hnx := inName_iff.1 (hg (k, x) (by simp)).2
    dsimp only at hkg hnx
    have HLF := Lib.hid hi.1
    have HFI := Lib.hid hfi
    have HI := Lib.hid (ints_hi hi)
    have HKG := Lib.hid hkg
    clear hc hc2 hg hi hkg hfi
    obtain ⟨q, hq⟩ : ∃ q : Nat, 9 - fl = q := ⟨_, rfl⟩
    have hqi : (9 : Int) - (fl : Int) = (q : Int) := by omega
    have hq3 : 3 ≤ q := by omega
    have hq9 : q ≤ 9 := by omega
    have hmk := run_make_row' (P := Try.prog) 22 3 (.int .i64 0) 8 Try.underlying22 infoInt rfl .i64 .i64 q (by omega) (by omega) w
    have hown := own_made w 3 q (by unfold maxLen; omega)
    have hbn : Below w.heap.size w (w.alloc (.cells (madeCells #[.int .i64 0] q) 3)) := (Below.refl _ _).alloc (Nat.le_refl _) _
    obtain ⟨_, _, eo, _, _, m0⟩ := hown.ints.at_ (k := 0) (by omega)
    simp only [Option.some.injEq, Addr.mk.injEq, and_true] at eo
    obtain ⟨rfl, rfl⟩ := eo
    obtain ⟨_, _, eo, _, _, m1⟩ := hown.ints.at_ (k := 1) (by omega)
    simp only [Option.some.injEq, Addr.mk.injEq, and_true] at eo
    obtain ⟨rfl, rfl⟩ := eo
    have z0 := hown.2 _ _ (by omega) rfl 0 (by omega)
    have z1 := hown.2 _ _ (by omega) rfl 1 (by omega)
    have d0 := (hbn.cell (p := ⟨b, 0, none⟩) hb).trans c0
    have d1 := (hbn.cell (p := ⟨b, 1, none⟩) hb).trans c1
    have HO := Lib.hid ((hown.set_ (k := 0) (by omega) 1).set_ (k := 1) (by omega) x)
    have hlast : ((List.replicate q (0 : Int)).set 0 1).set 1 x = lastL x fl := by rw [← hq]; exact last_eq x (by omega)
    rw [hlast] at HO
    have HBN := Lib.hid hbn
    generalize hw1 : w.alloc (.cells (madeCells #[.int .i64 0] q) 3) = w1 at *
    clear hown hbn hw1 hlast
    simp only [Nat.zero_add] at m0 m1 z0 z1 HO
    have g0 : (List.replicate q (0 : Int)).getD 0 0 = 0 := getD_zeros
    have g1 : (List.replicate q (0 : Int)).getD 1 0 = 0 := getD_zeros
    rw [g0] at m0
    rw [g1] at m1
    clear g0 g1
    go_enter Try.func53, Try.ntmps53
    go_wp2_with fail
    have HBS := Lib.hid ((HBN.out.setCell (p := ⟨w.heap.size, 0, none⟩) (Nat.le_refl _) (.int .i64 1)).setCell (p := ⟨w.heap.size, 1, none⟩) (Nat.le_refl _) (.int .i64 x))
    generalize ((w1.setCell { block := w.heap.size, off := 0 } (Value.int IntKind.i64 1)).setCell { block := w.heap.size, off := 1 } (Value.int IntKind.i64 x)) = w2 at HO HBS ⊢
    have HIF := Lib.hid (HI.out.below HBS.out (Nat.le_refl _))
    have hll : (lastL x fl).length = q := by rw [lastL_len x hf6]; exact hq
    have HLO := Lib.hid (lastL_ok x (m := fl) (by omega))
    have HM := Lib.hid (onF_yes HLO.out HKG.out)
    have HML : Hid ((onL (lastL x fl) k).length = q) := by show _ = _; rw [onL_len, hll]
    clear m0 m1 z0 z1 d0 d1 hmk hll
    ((with_reducible refine (MaskOnT _ _ _ _ _ (lastL x fl) k w2 HO.out.ints).mono ?_); rintro e w3 ⟨A3, rfl, ho3, hb3⟩)
    rw [HM.out, HML.out] at ho3 ⊢
    obtain ⟨b3, off3, rfl, _⟩ := ho3.ints.at_ (k := 0) (by omega)
    have HO3 := Lib.hid ho3
    have HB3 := Lib.hid (HBS.out.trans (hb3.mono HBS.out.size))
    have HI3 := Lib.hid (HIF.out.below hb3 (Nat.le_refl _))
    have hw23 := hb3.size
    have hw2 := HBS.out.size
    have HOK := Lib.hid (hdrL_ok f (by rw [HLF.out]; exact hf6) HFI.out (k, x) [])
    have HLH := Lib.hid (hdrL_len f (by rw [HLF.out]; exact hf6) (k, x) [])
    have HH : Hid (onL (lastL x fl) k ++ f = hdrL f [(k, x)]) := by show _ = _; rw [← HLF.out]; rfl
    clear ho3 hb3
    go_wp2_with (at_builtin; refine wpList_appFull _ _ _ _ _ _ _ HO3.out (by omega) (by omega) _ _ _ _ _ _ HI3.out (by omega) _ _ rfl rfl rfl rfl ?_; intro A4 c4 w4 ho4 hb4; rw [HH.out] at ho4; have c04 := ((HB3.out.trans (hb4.mono HB3.out.size)).cell (p := ⟨b, 0, none⟩) hb).trans c0)
    have HO4 := Lib.hid ho4
    have HB4 := Lib.hid (HB3.out.trans (hb4.mono HB3.out.size))
    clear ho4 hb4
    obtain ⟨q9, hq9'⟩ : ∃ q9, q + fl = q9 := ⟨_, rfl⟩
    rw [hq9'] at HO4 ⊢
    have hq99 : q9 = 9 := by omega
    subst hq99
    clear hq9' HO3 HI3 HB3
    have HT := Lib.hid (tagF_yes HKG.out HOK.out)
    ((with_reducible refine (TagOf _ _ _ _ _ (hdrL f [(k, x)]) k w4 HO4.out.ints).mono ?_); rintro e w5 ⟨rfl, hb5⟩)
    rw [HT.out]
    have HP : Hid (HdrPost (hdrL f [(k, x)]) (tagL k (hdrL f [(k, x)])) w (.returned (.tuple #[.slice A4 9 c4, .int .i64 (tagL k (hdrL f [(k, x)]))])) w5) := by
      refine ⟨A4, c4, by rw [HLH.out], ?_, HB4.out.trans (hb5.mono HB4.out.size)⟩
      rw [HLH.out]
      exact (HO4.out.below hb5 (Nat.le_refl _)).mono (by omega) hb5.size
    clear hb5
    go_wp2
    go_ret2
    exact HP.out
  | cons p2 L ih =>
    rintro ⟨k, x⟩ a w hc hg hi
    obtain ⟨b, u, rfl, hb, c0, c1, c2, hc2⟩ := hc.cells
    have hkg := (hg (k, x) (by simp)).1
    have hnx := inName_iff.1 (hg (k, x) (by simp)).2
    dsimp only at hkg hnx
    have HC2 := Lib.hid hc2.out
    obtain ⟨b2, u2, rfl, _, _⟩ := hc2.out
    have HG2 : Hid (∀ q ∈ p2 :: L, inG q.1 = true ∧ inName q.2 = true) := fun q hq => hg q (List.mem_cons_of_mem _ hq)
    have HLF := Lib.hid hi.1
    have HFI := Lib.hid hfi
    have HI := Lib.hid hi
    have HKG := Lib.hid hkg
    have hf6' : f.length ≤ 6 := by rw [hi.1]; exact hf6
    have HLH := Lib.hid (hdrL_len f hf6' p2 L)
    have HLH2 := Lib.hid (hdrL_len f hf6' (k, x) (p2 :: L))
    have HOK2 := Lib.hid (hdrL_ok f hf6' hfi (k, x) (p2 :: L))
    have HPO := Lib.hid (plainL_ok f hf6' hfi p2 L x p2.1 (by omega))
    have HE : Hid (hdrL f ((k, x) :: p2 :: L) = onL ([0, x, tagL p2.1 (hdrL f (p2 :: L))] ++ (hdrL f (p2 :: L)).take 6) k) := rfl
    clear hc hc2 hg hi hkg hfi hf6'
    go_enter Try.func53, Try.ntmps53
    go_wp2_with fail
    ((with_reducible refine (ih p2 _ w HC2.out HG2.out HI.out).mono ?_); rintro e w1 ⟨A1, e1, rfl, ho1, hb1⟩)
    rw [HLH.out] at ho1 ⊢
    generalize hdrL f (p2 :: L) = H at HLH HPO HE ho1 ⊢
    generalize hH2 : hdrL f ((k, x) :: p2 :: L) = H2 at HLH2 HOK2 HE
    have HH2 := Lib.hid hH2
    clear hH2
    generalize tagL p2.1 H = t at HPO HE ⊢
    obtain ⟨b3, off3, rfl, _⟩ := ho1.ints.at_ (k := 0) (by omega)
    have hcap := ho1.ints.cap_
    have h6i : (6 : Int) ≤ (e1 : Int) := by omega
    have h6 : 6 ≤ e1 := by omega
    have d0 := (hb1.cell (p := ⟨b, 0, none⟩) hb).trans c0
    have d1 := (hb1.cell (p := ⟨b, 1, none⟩) hb).trans c1
    have HB1 := Lib.hid hb1
    have hw1 := hb1.size
    have HA5 := Lib.hid (acc_three w1 0 x t).drew
    have hI7 := (ho1.ints.take (k := 6) (by omega)).below (B := w1.heap.size) (w' := w1.alloc (.cells #[.int .i64 0, .int .i64 x, .int .i64 t] 3)) ((Below.refl _ _).alloc (Nat.le_refl _) _) (Nat.le_refl _)
    have IH5 : Hid (Ints w.heap.size w1.heap.size (w1.alloc (.cells #[.int .i64 0, .int .i64 x, .int .i64 t] 3)).drew (some ⟨b3, off3, none⟩) 6 e1 (H.take 6)) := hI7
    have HM := Lib.hid (onF_yes HPO.out HKG.out)
    have d0a := (((Below.refl w1.heap.size w1).alloc (Nat.le_refl _) (.cells #[.int .i64 0, .int .i64 x, .int .i64 t] 3)).cell (p := ⟨b, 0, none⟩) (show b < w1.heap.size by omega)).trans d0
    have HC0 := Lib.hid c0
    have hPL0 : ([0, x, t] ++ H.take 6).length = 9 := by simp [HLH.out]
    generalize hPl : [0, x, t] ++ H.take 6 = Pl at HPO HM HE hPL0
    have HPL := Lib.hid hPl
    have HPLL := Lib.hid hPL0
    clear ho1 hb1 hI7 c0 c1 c2 hPl hPL0
    go_wp2_with fail
    go_region_law (first | (refine step_appL _ _ _ _ HA5.out _ _ _ _ _ _ IH5.out (by omega) (by simp) (.tmp 51) (.tmp 53) rfl rfl (by go_simp) (by go_simp) ?_; intro v5 w5 hN5 hB5; rw [HPL.out] at hN5; obtain ⟨A5, c5, rfl, ho5⟩ := own_of hN5.1; have hb5 := HB1.out.trans ((Il.Acc.below hN5).mono hw1); have d05 := (hb5.cell (p := ⟨b, 0, none⟩) hb).trans HC0.out) | (go_simp; go_at_call 26; refine (MaskOn _ _ _ _ _ Pl k _ ho5.ints).mono ?_; rintro e w6 ⟨A6, c6, rfl, ho6, hb6⟩))
    all_goals
      rw [HM.out, ← HE.out] at ho6 ⊢
      rw [HLH2.out] at ho6 ⊢
      have hb7 := hb5.trans (hb6.mono hb5.size)
      have d06 := (hb7.cell (p := ⟨b, 0, none⟩) hb).trans HC0.out
      have HO6 := Lib.hid (ho6.mono hb5.size (Nat.le_refl _))
      have HB7 := Lib.hid hb7
      have HT := Lib.hid (tagF_yes HKG.out HOK2.out)
      clear hN5 hB5 ho5 hb5 d05 ho6 hb6 hb7 d0 d1 d0a HA5 IH5
      go_wp2_with fail
      ((with_reducible refine (TagOf _ _ _ _ _ H2 k w6 HO6.out.ints).mono ?_); rintro e w7 ⟨rfl, hb8⟩)
      rw [HT.out]
      have HP : Hid (HdrPost H2 (tagL k H2) w (.returned (.tuple #[.slice A6 9 c6, .int .i64 (tagL k H2)])) w7) := by
        refine ⟨A6, c6, by rw [HLH2.out], ?_, HB7.out.trans (hb8.mono HB7.out.size)⟩
        rw [HLH2.out]
        exact (HO6.out.below hb8 (Nat.le_refl _)).mono (Nat.le_refl _) hb8.size
      clear hb8
      go_wp2
      go_ret2
      rw [HH2.out]
      exact HP.out

end Im5
end Go.Proofs.Ytdngdmhepjjeeab

/-
  Contracts of the program's chapter 5: valid packets, making a packet, peeling one.
-/
namespace Go.Proofs.Ytdngdmhepjjeeab
open Go.RowKit
namespace Im5
open Il Gm Mm Tm Lm Pm Pn Pq Im2 Im3 Im4
open Sp5 (namesOk pathOk pathF pubs_in pubs_len)

set_option maxRecDepth 20000 in
theorem PacketValid (lo hi lo2 hi2 : Nat) (A B : Option Addr) (n c m d : Nat) (el tag : Int) (hd bd : List Int) (w : World) (hh : Ints lo hi w A n c hd) (hb : Ints lo2 hi2 w B m d bd) :
    Calls Try.prog 21 #[.agg #[.int .i64 el, .slice A n c, .int .i64 tag, .slice B m d]] w (BoolB (pktOk ⟨el, hd, tag, bd⟩) w) := by
  have hbA : Below w.heap.size w (w.alloc (.cells #[.int .i64 el, .slice A n c, .int .i64 tag, .slice B m d] 26)) := (Below.refl _ _).alloc (Nat.le_refl _) _
  have HH := Lib.hid (hh.below hbA (Nat.le_refl _))
  have HB := Lib.hid (hb.below hbA (Nat.le_refl _))
  have hc1 := hh.2.1
  have hc2 := hb.2.1
  have hc3 := hh.2.2.1
  have hc4 := hb.2.2.1
  unfold maxLen at hc3 hc4
  have L1 := Lib.hid hh.1
  have L2 := Lib.hid hb.1
  have BB := Lib.hid hbA
  clear hh hb hbA
  cases hg : inG el
  · have hv : pktOk ⟨el, hd, tag, bd⟩ = false := by
      cases h : pktOk ⟨el, hd, tag, bd⟩
      · rfl
      · obtain ⟨q1, q2, q3, q4, q5, q6⟩ := pktOk_iff.1 h
        dsimp only at q1 q2 q3 q4 q5 q6
        rw [hg] at q1; cases q1
    rw [hv]
    clear hv
    go_enter Try.func21, Try.ntmps21
    go_wp2_with fail
    ((with_reducible refine (inRange el _).mono ?_); rintro e w' ⟨rfl, rfl⟩)
    rw [hg]
    clear hg
    go_wp2
    go_ret
    exact ⟨rfl, BB.out⟩
  by_cases h9 : ¬ n = 9
  · have hv : pktOk ⟨el, hd, tag, bd⟩ = false := by
      cases h : pktOk ⟨el, hd, tag, bd⟩
      · rfl
      · obtain ⟨q1, q2, q3, q4, q5, q6⟩ := pktOk_iff.1 h
        dsimp only at q1 q2 q3 q4 q5 q6
        exact absurd (L1.out.symm.trans q3) h9
    rw [hv]
    clear hv
    have e9 : ((n : Int) == 9) = false := by simp; omega
    clear h9
    go_enter Try.func21, Try.ntmps21
    go_wp2_with fail
    ((with_reducible refine (inRange el _).mono ?_); rintro e w' ⟨rfl, rfl⟩)
    rw [hg]
    clear hg
    go_wp2
    go_ret
    exact ⟨rfl, BB.out⟩
  replace h9 : n = 9 := by omega
  subst h9
  cases hh : okL hd
  · have hv : pktOk ⟨el, hd, tag, bd⟩ = false := by
      cases h : pktOk ⟨el, hd, tag, bd⟩
      · rfl
      · obtain ⟨q1, q2, q3, q4, q5, q6⟩ := pktOk_iff.1 h
        dsimp only at q1 q2 q3 q4 q5 q6
        rw [hh] at q2; cases q2
    rw [hv]
    clear hv
    go_enter Try.func21, Try.ntmps21
    go_wp2_with fail
    ((with_reducible refine (inRange el _).mono ?_); rintro e w' ⟨rfl, rfl⟩)
    rw [hg]
    clear hg
    go_wp2_with fail
    ((with_reducible refine (listValid _ _ _ _ _ _ _ HH.out).mono ?_); rintro e w' ⟨rfl, rfl⟩)
    rw [hh]
    clear hh
    go_wp2
    go_ret
    exact ⟨rfl, BB.out⟩
  by_cases h0 : ¬ 0 ≤ tag
  · have hv : pktOk ⟨el, hd, tag, bd⟩ = false := by
      cases h : pktOk ⟨el, hd, tag, bd⟩
      · rfl
      · obtain ⟨q1, q2, q3, q4, q5, q6⟩ := pktOk_iff.1 h
        dsimp only at q1 q2 q3 q4 q5 q6
        exact absurd (inN_iff.1 q4).1 h0
    rw [hv]
    clear hv
    have e0 : decide (0 ≤ tag) = false := by simpa using h0
    clear h0
    go_enter Try.func21, Try.ntmps21
    go_wp2_with fail
    ((with_reducible refine (inRange el _).mono ?_); rintro e w' ⟨rfl, rfl⟩)
    rw [hg]
    clear hg
    go_wp2_with fail
    ((with_reducible refine (listValid _ _ _ _ _ _ _ HH.out).mono ?_); rintro e w' ⟨rfl, rfl⟩)
    rw [hh]
    clear hh
    go_wp2
    go_ret
    exact ⟨rfl, BB.out⟩
  replace h0 : 0 ≤ tag := by omega
  by_cases h1 : ¬ tag < 991
  · have hv : pktOk ⟨el, hd, tag, bd⟩ = false := by
      cases h : pktOk ⟨el, hd, tag, bd⟩
      · rfl
      · obtain ⟨q1, q2, q3, q4, q5, q6⟩ := pktOk_iff.1 h
        dsimp only at q1 q2 q3 q4 q5 q6
        exact absurd (inN_iff.1 q4).2 (by omega)
    rw [hv]
    clear hv
    have e1 : decide (tag < 991) = false := by simpa using h1
    clear h1
    go_enter Try.func21, Try.ntmps21
    go_wp2_with fail
    ((with_reducible refine (inRange el _).mono ?_); rintro e w' ⟨rfl, rfl⟩)
    rw [hg]
    clear hg
    go_wp2_with fail
    ((with_reducible refine (listValid _ _ _ _ _ _ _ HH.out).mono ?_); rintro e w' ⟨rfl, rfl⟩)
    rw [hh]
    clear hh
    go_wp2
    go_ret
    exact ⟨rfl, BB.out⟩
  replace h1 : tag < 991 := by omega
  by_cases h6 : ¬ m = 6
  · have hv : pktOk ⟨el, hd, tag, bd⟩ = false := by
      cases h : pktOk ⟨el, hd, tag, bd⟩
      · rfl
      · obtain ⟨q1, q2, q3, q4, q5, q6⟩ := pktOk_iff.1 h
        dsimp only at q1 q2 q3 q4 q5 q6
        exact absurd (L2.out.symm.trans q6) h6
    rw [hv]
    clear hv
    have e6 : ((m : Int) == 6) = false := by simp; omega
    clear h6
    go_enter Try.func21, Try.ntmps21
    go_wp2_with fail
    ((with_reducible refine (inRange el _).mono ?_); rintro e w' ⟨rfl, rfl⟩)
    rw [hg]
    clear hg
    go_wp2_with fail
    ((with_reducible refine (listValid _ _ _ _ _ _ _ HH.out).mono ?_); rintro e w' ⟨rfl, rfl⟩)
    rw [hh]
    clear hh
    go_wp2
    go_ret
    exact ⟨rfl, BB.out⟩
  replace h6 : m = 6 := by omega
  subst h6
  cases hb : okL bd
  · have hv : pktOk ⟨el, hd, tag, bd⟩ = false := by
      cases h : pktOk ⟨el, hd, tag, bd⟩
      · rfl
      · obtain ⟨q1, q2, q3, q4, q5, q6⟩ := pktOk_iff.1 h
        dsimp only at q1 q2 q3 q4 q5 q6
        rw [hb] at q5; cases q5
    rw [hv]
    clear hv
    go_enter Try.func21, Try.ntmps21
    go_wp2_with fail
    ((with_reducible refine (inRange el _).mono ?_); rintro e w' ⟨rfl, rfl⟩)
    rw [hg]
    clear hg
    go_wp2_with fail
    ((with_reducible refine (listValid _ _ _ _ _ _ _ HH.out).mono ?_); rintro e w' ⟨rfl, rfl⟩)
    rw [hh]
    clear hh
    go_wp2_with fail
    ((with_reducible refine (listValid _ _ _ _ _ _ _ HB.out).mono ?_); rintro e w' ⟨rfl, rfl⟩)
    rw [hb]
    clear hb
    go_wp2
    go_ret
    exact ⟨rfl, BB.out⟩
  have hv : pktOk ⟨el, hd, tag, bd⟩ = true := pktOk_iff.2 ⟨hg, hh, L1.out, inN_iff.2 ⟨h0, show tag ≤ 990 by omega⟩, hb, L2.out⟩
  rw [hv]
  clear hv
  go_enter Try.func21, Try.ntmps21
  go_wp2_with fail
  ((with_reducible refine (inRange el _).mono ?_); rintro e w' ⟨rfl, rfl⟩)
  rw [hg]
  clear hg
  go_wp2_with fail
  ((with_reducible refine (listValid _ _ _ _ _ _ _ HH.out).mono ?_); rintro e w' ⟨rfl, rfl⟩)
  rw [hh]
  clear hh
  go_wp2_with fail
  ((with_reducible refine (listValid _ _ _ _ _ _ _ HB.out).mono ?_); rintro e w' ⟨rfl, rfl⟩)
  rw [hb]
  clear hb
  go_wp2
  go_ret
  exact ⟨rfl, BB.out⟩

set_option maxHeartbeats 1000000 in
set_option maxRecDepth 20000 in
theorem PacketMake (l1 h1 l2 h2 l3 h3 : Nat) (A B C : Option Addr) (n c m d q e : Nat) (ps ns ls : List Int) (x r : Int) (w : World) (ha : Ints l1 h1 w A n c ps) (hb : Ints l2 h2 w B m d ns) (hc : Ints l3 h3 w C q e ls) :
    Calls Try.prog 18 #[.int .i64 x, .slice A n c, .slice B m d, .int .i64 r, .slice C q e] w (PktPost (makeF x ps ns r ls) (makeOk x ps ns r ls) w) := by
  have hm1 := ha.2.1
  have hm2 := hb.2.1
  have hm3 := ha.2.2.1
  have hm4 := hb.2.2.1
  unfold maxLen at hm3 hm4
  have LA := Lib.hid ha.1
  have LB := Lib.hid hb.1
  have hw0 : Below w.heap.size w (w.alloc (.cells #[.int .i64 0, .slice none 0 0, .int .i64 0, .slice none 0 0] 26)) := (Below.refl _ _).alloc (Nat.le_refl _) _
  have hz0 : (w.alloc (.cells #[.int .i64 0, .slice none 0 0, .int .i64 0, .slice none 0 0] 26)).heap[w.heap.size]? = some (.cells #[.int .i64 0, .slice none 0 0, .int .i64 0, .slice none 0 0] 26 (0, 0)) := heap_alloc_new _ _
  have HNO : Hid (∀ w', makeOk x ps ns r ls = false → Below w.heap.size w w' → PktPost (makeF x ps ns r ls) (makeOk x ps ns r ls) w (.returned (.tuple #[.agg #[.int .i64 0, .slice none 0 0, .int .i64 0, .slice none 0 0], .bool false])) w') := fun w' h hb => by
    rw [makeF_no h, h]; exact pkt_zero hb
  have HA := Lib.hid (ha.below hw0 (Nat.le_refl _))
  have HB := Lib.hid (hb.below hw0 (Nat.le_refl _))
  have HC := Lib.hid (hc.below hw0 (Nat.le_refl _))
  have hs0 : (w.alloc (.cells #[.int .i64 0, .slice none 0 0, .int .i64 0, .slice none 0 0] 26)).heap.size = w.heap.size + 1 := by simp
  clear ha hb hc
  go_enter Try.func18, Try.ntmps18
  go_wp2_with fail
  ((with_reducible refine (PathKeys _ _ _ _ _ ps x _ HA.out).mono ?_); rintro e w1 ⟨AK, ck, rfl, ok, hb1⟩)
  have HZ1 := Lib.hid ((hb1.block w.heap.size (by omega)).trans hz0)
  have HB1 := Lib.hid (hw0.trans (hb1.mono (by omega)))
  replace HA := Lib.hid (HA.out.below hb1 (Nat.le_refl _))
  replace HB := Lib.hid (HB.out.below hb1 (Nat.le_refl _))
  replace HC := Lib.hid (HC.out.below hb1 (Nat.le_refl _))
  have hs1 := hb1.size
  have HK := Lib.hid ok
  clear ok hb1 hz0 hw0
  go_wp2_with fail
  ((with_reducible refine (LetterPack _ _ _ _ _ ls w1 HC.out).mono ?_); rintro e w2 ⟨AL, cl, rfl, ol, hb2⟩)
  have hz2 := (hb2.block w.heap.size (by omega)).trans HZ1.out
  have HB2 := Lib.hid (HB1.out.trans (hb2.mono (by omega)))
  replace HB := Lib.hid (HB.out.below hb2 (Nat.le_refl _))
  replace HK := Lib.hid (HK.out.below hb2 (Nat.le_refl _))
  have hs2 := hb2.size
  have HL := Lib.hid ol
  have k := fun j => cell_of_row w2 w.heap.size j _ _ _ hz2
  have f0 : ∀ j, w2.frozen? ⟨w.heap.size, j, none⟩ = false := fun j => by simp [World.frozen?, hz2]
  have k0 := k 0
  have k1 := k 1
  have k2 := k 2
  have k3 := k 3
  simp at k0 k1 k2 k3
  have HZ2 := Lib.hid hz2
  clear ol hb2 HA HC HZ1 HB1 hz2 k
  cases hp : pathOk x ps
  · have hv : makeOk x ps ns r ls = false := by
      cases h : makeOk x ps ns r ls
      · rfl
      · obtain ⟨q1, q2, q3, q4, q5, q6⟩ := makeOk_iff.1 h
        simp [pathOk, q2, q3] at hp
    have HV := Lib.hid hv
    clear hv
    go_wp2
    refine bodyPost_ret (v := .tuple #[.agg #[.int .i64 0, .slice none 0 0, .int .i64 0, .slice none 0 0], .bool false]) ?_ rfl (HNO.out _ HV.out ?_)
    · rw [results_cell_tmp rfl]
      go_simp
    · exact (((HB2.out.setCell (by simp) _).setCell (by simp) _).setCell (by simp) _).setCell (by simp) _
  have HPO := Lib.hid hp
  cases hq : packOk ls
  · have hv : makeOk x ps ns r ls = false := by
      cases h : makeOk x ps ns r ls
      · rfl
      · obtain ⟨q1, q2, q3, q4, q5, q6⟩ := makeOk_iff.1 h
        rw [q1] at hq; cases hq
    have HV := Lib.hid hv
    clear hv
    go_wp2
    refine bodyPost_ret (v := .tuple #[.agg #[.int .i64 0, .slice none 0 0, .int .i64 0, .slice none 0 0], .bool false]) ?_ rfl (HNO.out _ HV.out ?_)
    · rw [results_cell_tmp rfl]
      go_simp
    · exact (((HB2.out.setCell (by simp) _).setCell (by simp) _).setCell (by simp) _).setCell (by simp) _
  have HLO := Lib.hid hq
  by_cases hmn : ¬ m = n
  · have hv : makeOk x ps ns r ls = false := by
      cases h : makeOk x ps ns r ls
      · rfl
      · obtain ⟨q1, q2, q3, q4, q5, q6⟩ := makeOk_iff.1 h
        exact absurd (LB.out.symm.trans (q4.trans LA.out)) hmn
    have HV := Lib.hid hv
    clear hv
    have en : ((m : Int) != (n : Int)) = true := by simp; omega
    clear hmn
    go_wp2
    refine bodyPost_ret (v := .tuple #[.agg #[.int .i64 0, .slice none 0 0, .int .i64 0, .slice none 0 0], .bool false]) ?_ rfl (HNO.out _ HV.out ?_)
    · rw [results_cell_tmp rfl]
      go_simp
    · exact (((HB2.out.setCell (by simp) _).setCell (by simp) _).setCell (by simp) _).setCell (by simp) _
  replace hmn : m = n := by omega
  subst hmn
  cases hn : namesOk ns
  · have hv : makeOk x ps ns r ls = false := by
      cases h : makeOk x ps ns r ls
      · rfl
      · obtain ⟨q1, q2, q3, q4, q5, q6⟩ := makeOk_iff.1 h
        simp [namesOk] at hn; obtain ⟨y, hy, hy2⟩ := hn; exact absurd (q5 y hy) (by simp [hy2])
    have HV := Lib.hid hv
    clear hv
    go_wp2_with fail
    ((with_reducible refine (namesValid _ _ _ _ _ ns w2 HB.out).mono ?_); rintro e w' ⟨rfl, rfl⟩)
    rw [hn]
    clear hn
    go_wp2
    refine bodyPost_ret (v := .tuple #[.agg #[.int .i64 0, .slice none 0 0, .int .i64 0, .slice none 0 0], .bool false]) ?_ rfl (HNO.out _ HV.out ?_)
    · rw [results_cell_tmp rfl]
      go_simp
    · exact (((HB2.out.setCell (by simp) _).setCell (by simp) _).setCell (by simp) _).setCell (by simp) _
  have HNM := Lib.hid hn
  cases hr : inName r
  · have hv : makeOk x ps ns r ls = false := by
      cases h : makeOk x ps ns r ls
      · rfl
      · obtain ⟨q1, q2, q3, q4, q5, q6⟩ := makeOk_iff.1 h
        rw [q6] at hr; cases hr
    have HV := Lib.hid hv
    clear hv
    go_wp2_with fail
    ((with_reducible refine (namesValid _ _ _ _ _ ns w2 HB.out).mono ?_); rintro e w' ⟨rfl, rfl⟩)
    rw [hn]
    clear hn
    go_wp2_with fail
    ((with_reducible refine (nameValid r w2).mono ?_); rintro e w' ⟨rfl, rfl⟩)
    rw [hr]
    clear hr
    go_wp2
    refine bodyPost_ret (v := .tuple #[.agg #[.int .i64 0, .slice none 0 0, .int .i64 0, .slice none 0 0], .bool false]) ?_ rfl (HNO.out _ HV.out ?_)
    · rw [results_cell_tmp rfl]
      go_simp
    · exact (((HB2.out.setCell (by simp) _).setCell (by simp) _).setCell (by simp) _).setCell (by simp) _
  have HR := Lib.hid hr
  have hpo := HPO.out
  have hg : inG x = true := by unfold pathOk at hpo; simp at hpo; exact hpo.1
  have hpb : pubsOk ps = true := by unfold pathOk at hpo; simp at hpo; exact hpo.2
  have hpf : pathF x ps = keysF x ps := by simp [pathF, hpo]
  have HKI := Lib.hid (keysF_in x ps hg (pubs_in hpb))
  have hkl : (keysF x ps).length = m := by rw [keysF_len, LA.out]
  have hm3 : m ≤ 3 := by rw [← LA.out]; exact pubs_len hpb
  have hm1' : 1 ≤ m := by rw [← LA.out]; unfold pubsOk at hpb; simp at hpb; omega
  have hnm : ∀ y ∈ ns, inName y = true := by
    have := HNM.out
    unfold namesOk at this
    exact List.all_eq_true.1 this
  have hv : makeOk x ps ns r ls = true := makeOk_iff.2 ⟨HLO.out, hg, hpb, by rw [LB.out, LA.out], hnm, HR.out⟩
  have hkc : ∃ k ks, keysF x ps = k :: ks := by
    match hks : keysF x ps, hkl with
    | [], hl => simp at hl; omega
    | k :: ks, _ => exact ⟨k, ks, rfl⟩
  have HV := Lib.hid hv
  rw [hpf, hkl] at HK ⊢
  rw [packF_yes HLO.out, packL_len (packOk_iff.1 HLO.out).2] at HL ⊢
  have HIN := Lib.hid (layL_in (keysF x ps) ns r HKI.out (by rw [hkl, LB.out]) hnm HR.out)
  have HLL : Hid ((layL (keysF x ps) ns r).length = m) := by show _ = _; rw [layL_len, hkl]
  have HLK := Lib.hid (layL_keys (keysF x ps) ns r)
  have HFI := Lib.hid (fillF_in (keysF x ps))
  have HFL : Hid ((fillF (keysF x ps)).length ≤ 6) := by show _ ≤ _; rw [fillF_len, hkl]; omega
  have HHD := fun f => hdrL_lay f (keysF x ps) ns r
  obtain ⟨k, ks, hks⟩ := hkc
  obtain ⟨y, L, hlay⟩ := layL_cons k ks ns r
  rw [← hks] at hlay
  have HOKP := Lib.hid (packL_ok HLO.out)
  have HMK := Lib.hid (makeF_yes hv)
  have hhead : (keysF x ps).headD 0 = k := by rw [hks]; rfl
  have HEQ : Hid (makeF x ps ns r ls = ⟨mulG x 5, hdrL (fillF (keysF x ps)) ((k, y) :: L), tagL k (hdrL (fillF (keysF x ps)) ((k, y) :: L)), bodyF (packL ls) (keysF x ps)⟩) := by
    show _ = _
    rw [HMK.out, ← hlay, HHD]
    unfold pkt
    rw [hhead]
  have HBL := Lib.hid (body_len (keysF x ps) (packL ls))
  have HPL := Lib.hid (packL_len (packOk_iff.1 HLO.out).2)
  have HLAY := Lib.hid hlay
  clear hpo hg hpb hpf hnm hv hkl HHD hks hlay hhead HMK HNO
  generalize keysF x ps = K at *
  go_wp2_with fail
  ((with_reducible refine (namesValid _ _ _ _ _ ns w2 HB.out).mono ?_); rintro e w' ⟨rfl, rfl⟩)
  rw [hn]
  clear hn
  go_wp2_with fail
  ((with_reducible refine (nameValid r w2).mono ?_); rintro e w' ⟨rfl, rfl⟩)
  rw [hr]
  clear hr hp hq
  go_wp2_with fail
  ((with_reducible refine (layersOf _ _ _ _ _ _ _ _ _ _ K ns r w2 HK.out.ints HB.out (Nat.le_refl _) hm3).mono ?_); rintro e w3 ⟨a, rfl, hch, hb3⟩)
  have HB3 := Lib.hid (HB2.out.trans (hb3.mono (by omega)))
  have HC3 := Lib.hid hch
  have HZ3 := Lib.hid ((hb3.block w.heap.size (by omega)).trans HZ2.out)
  have HL3 := Lib.hid (HL.out.below hb3 (Nat.le_refl _))
  have hs3 := hb3.size
  clear hch hb3 k0 k1 k2 k3 f0 HK HB
  go_wp2_with fail
  ((with_reducible refine (filler a (layL K ns r) w3 HC3.out (fun p hp => (HIN.out p hp).1) (by rw [HLL.out]; exact hm1') (by rw [HLL.out]; exact hm3)).mono ?_); rintro e w4 ⟨AF, cf, rfl, hif, hb4⟩)
  rw [HLK.out] at hif ⊢
  have HB4 := Lib.hid (HB3.out.trans (hb4.mono (by omega)))
  have HC4 := Lib.hid (Chain.below hb4 (Nat.le_refl _) HC3.out)
  have HZ4 := Lib.hid ((hb4.block w.heap.size (by omega)).trans HZ3.out)
  have HL4 := Lib.hid (HL3.out.below hb4 (Nat.le_refl _))
  have HF4 := Lib.hid hif
  have hs4 := hb4.size
  clear hif hb4 HC3 HZ3 HL3 HB3
  have hc4 := HC4.out
  rw [HLAY.out] at hc4
  have HC4b := Lib.hid hc4
  have HIN2 : Hid (∀ q ∈ (k, y) :: L, inG q.1 = true ∧ inName q.2 = true) := by rw [← HLAY.out]; exact HIN.out
  clear hc4
  go_wp2_with fail
  ((with_reducible refine (header (fillF K) _ _ _ _ _ HFL.out HFI.out L (k, y) a w4 HC4b.out HIN2.out HF4.out).mono ?_); rintro e w5 ⟨AH, ch, rfl, oh, hb5⟩)
  have HHL := Lib.hid (hdrL_len (fillF K) HFL.out (k, y) L)
  rw [HHL.out] at oh ⊢
  have HB5 := Lib.hid (HB4.out.trans (hb5.mono (by omega)))
  have HC5 := Lib.hid (Chain.below hb5 (Nat.le_refl _) HC4.out)
  have HZ5 := Lib.hid ((hb5.block w.heap.size (by omega)).trans HZ4.out)
  have HL5 := Lib.hid (HL4.out.below hb5 (Nat.le_refl _))
  have HH5 := Lib.hid oh
  have hs5 := hb5.size
  clear oh hb5 HC4 HC4b HZ4 HL4 HB4 HF4 HIN2
  go_wp2_with fail
  ((with_reducible refine (Grp.iPublic x w5).mono ?_); rintro e w' ⟨rfl, rfl⟩)
  go_wp2_with fail
  ((with_reducible refine (maskBody a (layL K ns r) _ _ _ _ (packL ls) w5 HC5.out (fun p hp => (HIN.out p hp).1) (by rw [HLL.out]; exact hm1') (by rw [HLL.out]; exact hm3) HL5.out HOKP.out).mono ?_); rintro e w6 ⟨AB, cb, rfl, ob, hb6⟩)
  rw [HLK.out, HBL.out, HPL.out] at ob ⊢
  have HB6 := Lib.hid (HB5.out.trans (hb6.mono (by omega)))
  have hz6 := (hb6.block w.heap.size (by omega)).trans HZ5.out
  have hlie := lies_of (el := mulG x 5) (tag := tagL k (hdrL (fillF K) ((k, y) :: L))) (HH5.out.below hb6 (Nat.le_refl _)) ob (by omega) (by omega) (.inl (Nat.le_refl _)) (lo := w.heap.size + 1) (by omega) (by omega)
  have kk := fun j => cell_of_row w6 w.heap.size j _ _ _ hz6
  have f0 : ∀ j, w6.frozen? ⟨w.heap.size, j, none⟩ = false := fun j => by simp [World.frozen?, hz6]
  have k0 := kk 0
  have k1 := kk 1
  have k2 := kk 2
  have k3 := kk 3
  simp at k0 k1 k2 k3
  obtain ⟨b1, b2, hlie, hg1, hg2⟩ := hlie
  have HLIE := Lib.hid hlie
  clear hz6 kk hlie ob hb6 HC5 HZ5 HL5 HB5 HH5
  generalize hhe : hdrL (fillF K) ((k, y) :: L) = H at HEQ HLIE HHL ⊢
  generalize tagL k H = t at HEQ HLIE ⊢
  generalize hbe : bodyF (packL ls) K = bd at HEQ HLIE HBL ⊢
  have HBD : Hid (bd.length = 6) := by show _ = _; rw [HBL.out, HPL.out]
  clear hhe hbe
  go_wp2
  refine bodyPost_ret (v := .tuple #[.agg #[.int .i64 (mulG x 5), .slice AH 9 ch, .int .i64 t, .slice AB 6 cb], .bool true]) ?_ rfl ?_
  · rw [results_cell_tmp rfl]
    go_simp
  · rw [HEQ.out, HV.out]
    have hset := (((HB6.out.setCell (p := ⟨w.heap.size, 0, none⟩) (Nat.le_refl _) (.int .i64 (mulG x 5))).setCell (p := ⟨w.heap.size, 1, none⟩) (Nat.le_refl _) (.slice AH 9 ch)).setCell (p := ⟨w.heap.size, 2, none⟩) (Nat.le_refl _) (.int .i64 t)).setCell (p := ⟨w.heap.size, 3, none⟩) (Nat.le_refl _) (.slice AB 6 cb)
    refine ⟨AH, ch, AB, cb, b1, b2, by rw [HHL.out, HBD.out], ?_, by omega, by omega, hset⟩
    exact (((HLIE.out.set (q := ⟨w.heap.size, 0, none⟩) (by simp; omega) (by simp; omega) _).set (q := ⟨w.heap.size, 1, none⟩) (by simp; omega) (by simp; omega) _).set (q := ⟨w.heap.size, 2, none⟩) (by simp; omega) (by simp; omega) _).set (q := ⟨w.heap.size, 3, none⟩) (by simp; omega) (by simp; omega) _

end Im5
end Go.Proofs.Ytdngdmhepjjeeab
