/-
  Contracts of the program's layers: linked blocks, their filler, their headers, the masked body.
-/
import Derived.Test.YtdejnbbfdbafnaaIm5
import Derived.Test.YtdejnbbfdbafnaaPn
import Derived.Test.YtdejnbbfdbafnaaPq
import Derived.Deep.RegionLaw
import Derived.Deep.LoopGhost
namespace Go.Proofs.Ytdejnbbfdbafnaa
open Go.RowKit
namespace Im5
open Il Gm Mm Tm Lm Pm Pn Pq Im2 Im3 Im4
open Sp5 (HdrPost)
open Sp4 (lenOf)

/-- Layers lie linked in memory, each in a block of its own. -/
def Chain (w : World) : Option Addr → List (Int × Int) → Prop
  | a, [] => a = none
  | a, p :: L => ∃ b u, a = some ⟨b, 0, none⟩ ∧ w.heap[b]? = some (.cells #[.int .i64 p.1, .int .i64 p.2, .pointer u] 82 (0, 0)) ∧ Chain w u L
theorem Chain.below {w w' : World} {B : Nat} (hb : Below B w w') (hB : w.heap.size ≤ B) {a : Option Addr} {L : List (Int × Int)} (h : Chain w a L) : Chain w' a L := by
  induction L generalizing a with
  | nil => exact h
  | cons p L ih =>
    obtain ⟨b, u, e, hh, hc⟩ := h
    have hlt := (Array.getElem?_eq_some_iff.1 hh).1
    exact ⟨b, u, e, (hb.block b (by omega)).trans hh, ih hc⟩
theorem Chain.new_ {w : World} {u : Option Addr} {L : List (Int × Int)} (h : Chain w u L) (k x : Int) : Chain (w.alloc (.cells #[.int .i64 k, .int .i64 x, .pointer u] 82)) (some ⟨w.heap.size, 0, none⟩) ((k, x) :: L) :=
  ⟨w.heap.size, u, rfl, heap_alloc_new _ _, Chain.below (B := w.heap.size) ((Below.refl _ _).alloc (Nat.le_refl _) _) (Nat.le_refl _) h⟩
/-- The cells of the first layer. -/
theorem Chain.cells {w : World} {a : Option Addr} {k x : Int} {L : List (Int × Int)} (h : Chain w a ((k, x) :: L)) : ∃ b u, a = some ⟨b, 0, none⟩ ∧ b < w.heap.size ∧ w.cell? ⟨b, 0, none⟩ = some (.int .i64 k) ∧ w.cell? ⟨b, 1, none⟩ = some (.int .i64 x) ∧ w.cell? ⟨b, 2, none⟩ = some (.pointer u) ∧ Hid (Chain w u L) := by
  obtain ⟨b, u, e, hh, hc⟩ := h
  refine ⟨b, u, e, (Array.getElem?_eq_some_iff.1 hh).1, ?_, ?_, ?_, hc⟩
  · rw [cell_of_row _ _ _ _ _ _ hh]; rfl
  · rw [cell_of_row _ _ _ _ _ _ hh]; rfl
  · rw [cell_of_row _ _ _ _ _ _ hh]; rfl
def ChainPost (L : List (Int × Int)) (w : World) (e : Ending) (w' : World) : Prop := ∃ a, e = .returned (.pointer a) ∧ Chain w' a L ∧ Below w.heap.size w w'

set_option maxRecDepth 20000 in
theorem layersOf (l1 h1 l2 h2 : Nat) (A B : Option Addr) (n c m d : Nat) (ks ns : List Int) (r : Int) (w : World) (hx : Ints l1 h1 w A n c ks) (hy : Ints l2 h2 w B m d ns) (hnm : n ≤ m) (hn : n ≤ 3) :
    Calls Try.prog 41 #[.slice A n c, .slice B m d, .int .i64 r] w (ChainPost (layL ks ns r) w) := by
  have hc1 := hx.2.1
  have hc2 := hy.2.1
  have hc3 := hy.2.2.1
  unfold maxLen at hc3
  have HX := Lib.hid hx
  have HY := Lib.hid hy
  have HL := Lib.hid hx.1
  have HC0 : Hid (Chain w none (layL (ks.drop n) (ns.drop n) r) ∧ Below w.heap.size w w) := by
    refine ⟨?_, Below.refl _ _⟩
    rw [List.drop_eq_nil_of_le (by rw [hx.1]; exact Nat.le_refl _)]
    rfl
  have HN0 : Hid (r = nxAt ns n r n) := by show r = _; unfold nxAt; rw [if_pos rfl]
  clear hx hy
  go_enter Try.func41, Try.ntmps41
  go_wp2
  go_loopw [7, 8, 9] (fun v x i wr => ∃ (s : Nat) (u : Option Addr), s ≤ n ∧ i = .int .i64 ((s : Int) - 1) ∧ v = .pointer u ∧ x = .int .i64 (nxAt ns n r s) ∧ Hid (Chain wr u (layL (ks.drop s) (ns.drop s) r) ∧ Below w.heap.size w wr)) (fun _ _ i _ => (intOf i + 1).toNat)
  case atStart => exact ⟨n, none, Nat.le_refl _, rfl, rfl, by rw [← HN0.out], HC0.out⟩
  case round =>
    obtain ⟨s, u, hs, rfl, rfl, rfl, hT⟩ := hrel
    clear HC0 HN0
    cases s with
    | zero =>
      rw [show (((0 : Nat) : Int) - 1) = -1 from rfl]
      have HP : Hid (ChainPost (layL ks ns r) w (.returned (.pointer u)) wr) := ⟨u, rfl, hT.out.1, hT.out.2⟩
      clear hT
      go_wp2
      go_ret
      exact HP.out
    | succ s =>
      rw [show (((s + 1 : Nat) : Int) - 1) = (s : Int) from by omega]
      obtain ⟨b, off, rfl, _, _, hcx⟩ := HX.out.at_ (k := s) (by omega)
      obtain ⟨b2, off2, rfl, _, _, hcy⟩ := HY.out.at_ (k := s) (by omega)
      have hb3 : b < w.heap.size := World.block_lt_of_cell? w _ hcx
      have hb4 : b2 < w.heap.size := World.block_lt_of_cell? w _ hcy
      have ck := (hT.out.2.cell (p := ⟨b, off + s, none⟩) hb3).trans hcx
      have HBA := Lib.hid (hT.out.2.alloc hT.out.2.size (.cells #[.int .i64 (ks.getD s 0), .int .i64 (nxAt ns n r (s + 1)), .pointer u] 82))
      have cn := (HBA.out.cell (p := ⟨b2, off2 + s, none⟩) hb4).trans hcy
      have HCH := Lib.hid (hT.out.1.new_ (ks.getD s 0) (nxAt ns n r (s + 1)))
      have HST : Hid (layL (ks.drop s) (ns.drop s) r = (ks.getD s 0, nxAt ns n r (s + 1)) :: layL (ks.drop (s + 1)) (ns.drop (s + 1)) r) := by
        have := layL_step (ks := ks) (ns := ns) (r := r) (s := s) (by rw [HL.out]; omega)
        rw [HL.out] at this
        exact this
      rw [← HST.out] at HCH
      have HNX : Hid (ns.getD s 0 = nxAt ns n r s) := by show _ = _; unfold nxAt; rw [if_neg (by omega)]
      rw [HNX.out] at cn
      have hlt1 : (s : Int) < (n : Int) := by omega
      have hlt2 : (s : Int) < (m : Int) := by omega
      generalize ks.getD s 0 = k at ck HBA HCH cn
      generalize nxAt ns n r (s + 1) = x at HBA HCH cn ⊢
      generalize hye : nxAt ns n r s = y at cn
      have HYE := Lib.hid hye
      clear hye
      clear hT hcx hcy HST HNX
      go_wp2
      go_roundw
      case rel => exact ⟨s, _, by omega, rfl, rfl, by rw [HYE.out], HCH.out, HBA.out⟩
      case measure => simp [intOf]

def IntsPost (xs : List Int) (w : World) (e : Ending) (w' : World) : Prop :=
  ∃ A c, e = .returned (.slice A xs.length c) ∧ Ints w.heap.size w'.heap.size w' A xs.length c xs ∧ Below w.heap.size w w'
def LoopRel (w wr : World) (L : List (Int × Int)) (s : Nat) (a : Option Addr) (A : Option Addr) (m c : Nat) : Prop :=
  Chain wr a (L.drop s) ∧ Ints w.heap.size wr.heap.size wr A m c (fillAt (L.map Prod.fst) s) ∧ Below w.heap.size w wr

set_option maxRecDepth 100000 in
theorem filler (a : Option Addr) (L : List (Int × Int)) (w : World) (hc : Chain w a L) (hg : ∀ p ∈ L, inG p.1 = true) (h1 : 1 ≤ L.length) (h3 : L.length ≤ 3) :
    Calls Try.prog 43 #[.pointer a] w (IntsPost (fillF (L.map Prod.fst)) w) := by
  have HG := Lib.hid hg
  have HR0 : Hid (LoopRel w (w.alloc (.cells #[] 3)) L 0 a (some ⟨w.heap.size, 0, none⟩) 0 0) :=
    ⟨Chain.below (B := w.heap.size) ((Below.refl _ _).alloc (Nat.le_refl _) _) (Nat.le_refl _) hc, Ints.nil_ (Nat.zero_le _), (Below.refl _ _).alloc (Nat.le_refl _) _⟩
  clear hc hg
  go_enter Try.func43, Try.ntmps43
  go_wp2
  go_loopw [0, 3] (fun v f wr => ∃ (s : Nat) (a A : Option Addr) (m c : Nat), s + 1 ≤ L.length ∧ v = .pointer a ∧ f = .slice A m c ∧ m = 3 * s ∧ Hid (LoopRel w wr L s a A m c)) (fun _ f _ => 9 - lenOf f)
  case atStart => exact ⟨0, a, _, 0, 0, h1, rfl, rfl, rfl, HR0.out⟩
  case round =>
    obtain ⟨s, a, A, m, c, hs, rfl, rfl, hm, hT⟩ := hrel
    clear HR0
    obtain ⟨k, x, L2, hL⟩ : ∃ k x L2, L.drop s = (k, x) :: L2 := by
      rw [List.drop_eq_getElem_cons (by omega)]
      exact ⟨_, _, _, rfl⟩
    have hch := hT.out.1
    rw [hL] at hch
    obtain ⟨b, u, rfl, hb, c0, c1, c2, hc2⟩ := hch.cells
    have hL2 : L.drop (s + 1) = L2 := by
      have := congrArg List.tail hL
      rwa [List.tail_drop] at this
    by_cases hlt : s + 1 < L.length
    · obtain ⟨p, L3, rfl⟩ : ∃ p L3, L2 = p :: L3 := by
        rw [← hL2, List.drop_eq_getElem_cons hlt]
        exact ⟨_, _, rfl⟩
      obtain ⟨b2, u2, rfl, hh2, hc3⟩ := hc2.out
      have HC2 : Hid (Chain wr (some ⟨b2, 0, none⟩) (L.drop (s + 1))) := by rw [hL2]; exact ⟨b2, u2, rfl, hh2, hc3⟩
      have hmem : (k, x) ∈ L := List.mem_of_mem_drop (by rw [hL]; simp)
      have hkg := HG.out _ hmem
      have HKG : Hid (inG k = true) := hkg
      have hkl : s < (L.map Prod.fst).length := by simp; omega
      have hkk : (L.map Prod.fst).getD s 0 = k := by
        rw [List.getD_eq_getElem?_getD, List.getElem?_map, ← List.head?_drop, hL]; rfl
      have HF : Hid (fillAt (L.map Prod.fst) (s + 1) = fillStep (fillAt (L.map Prod.fst) s) k) := by
        show _ = _
        rw [fillAt_succ hkl, hkk]
      have HFI := Lib.hid (fillAt_in (L.map Prod.fst) s)
      have HI := Lib.hid hT.out.2.1
      have HBW := Lib.hid hT.out.2.2
      have HFL : Hid ((fillAt (L.map Prod.fst) s).length = m) := hT.out.2.1.1
      have hb9 : Below wr.heap.size wr (wr.alloc (.cells (vals (zeros 9)).toArray 3)) := (Below.refl _ _).alloc (Nat.le_refl _) _
      have HX1 := Lib.hid (HI.out.below hb9 (Nat.le_refl _))
      have hmk := run_make_row' (P := Try.prog) 23 3 (.int .i64 0) 8 Try.underlying23 infoInt rfl .i64 .i64 9 (by omega) (by omega)
      rw [made_zeros 9] at hmk
      have hmk2 : ∀ w : World, (Instr.makeSlice 23 (.int .i64 9) (.int .i64 9)).run Try.prog w = .ok (.slice (some ⟨w.heap.size, 0, none⟩) 9 9) (w.alloc (.cells (vals (zeros 9)).toArray 3)) := hmk
      generalize fillAt (L.map Prod.fst) s = F at HF HFI HI HFL HX1
      have d0 := fun o : Obj => (Below.refl wr.heap.size wr).alloc (Nat.le_refl _) o |>.cell (p := ⟨b, 0, none⟩) hb |>.trans c0
      clear hch hc2 hL hL2 hh2 hc3 hT hmk hmem hkl hkk hkg
      have hfit : 9 - m + F.length ≤ 9 := by rw [HFL.out]; omega
      have HLZ : Hid (splice (vals (zeros 9)) (9 - m) (vals F) = vals (List.replicate (9 - m) 0 ++ F)) := by
        show _ = _
        rw [splice_zeros (n := m) HFL.out (by omega)]
        have : 9 - (9 - m + m) = 0 := by omega
        rw [this, List.replicate_zero, List.append_nil]
        rfl
      have HFE := Lib.hid (fill_eq k HFL.out (by omega))
      have HOK : Hid (okL ((List.replicate (9 - m) 0 ++ F) ++ [0, 0, 0]) = true) := by
        refine okL_iff.2 ⟨fun y hy => ?_, ?_⟩
        · rcases List.mem_append.1 hy with h | h
          · rcases List.mem_append.1 h with h | h
            · have := (List.mem_replicate.1 h).2; omega
            · exact HFI.out y h
          · simp at h; omega
        · simp [HFL.out]; omega
      have HLEN : Hid ((List.replicate (9 - m) (0 : Int) ++ F).length = 9) := by show _ = _; simp [HFL.out]; omega
      obtain ⟨rfl, rfl⟩ | ⟨rfl, rfl⟩ : (s = 0 ∧ m = 0) ∨ (s = 1 ∧ m = 3) := by omega
      · clear hm d0 hfit hs h1 h3
        have HB9 := Lib.hid hb9
        clear hb9
        go_wp2_with (with_reducible refine wpList_copy_splice rfl _ _ _ _ rfl 3 underInts sizeInt _ _ _ _ _ _ rfl rfl wr.heap.size 9 (vals (zeros 9)) 3 ?hg (vals F) ?hn ?hpos ?hfit ?h1 wr.heap.size wr ?hb ?hBg ?h)
        case hg => exact heap_alloc_new wr _
        case hn => simp only [vals, List.length_map, HFL.out]; rfl
        case hpos =>
          intro hpos
          have hn0 : 0 < F.length := by simpa [vals] using hpos
          exact absurd HFL.out (by omega)
        case hfit => simp only [vals, List.length_map, HFL.out, zeros_len]; omega
        case h1 => intro v hv; obtain ⟨y, _, rfl⟩ := List.mem_map.1 hv; rfl
        case hb => exact HB9.out
        case hBg => exact Nat.le_refl _
        case h =>
        intro w1 hg1 hB1
        have hg2 : w1.heap[wr.heap.size]? = some (.cells (vals (List.replicate 9 0 ++ F)).toArray 3 (0, 0)) := by
          have h := hg1.out
          rw [show splice (vals (zeros 9)) 9 (vals F) = vals (List.replicate 9 0 ++ F) from HLZ.out] at h
          exact h
        have ho := own_block hg2 (by rw [show (List.replicate 9 (0 : Int) ++ F).length = 9 from HLEN.out]; simp [maxLen])
        rw [show (List.replicate 9 (0 : Int) ++ F).length = 9 from HLEN.out] at ho
        have HO := Lib.hid ho
        have HB1 := Lib.hid hB1
        have d0 := (hB1.cell (p := ⟨b, 0, none⟩) hb).trans c0
        have d2 := (hB1.cell (p := ⟨b, 2, none⟩) hb).trans c2
        have hl12 : (offF ((List.replicate 9 0 ++ F) ++ List.replicate (12 - 9) 0) k).length = 12 := by
          have e0 := offF_yes HOK.out HKG.out
          have e1 : offF ((List.replicate 9 0 ++ F) ++ List.replicate (12 - 9) 0) k = _ := e0
          rw [e1, offL_len]
          simp [HFL.out]
        have HE : Hid ((offF ((List.replicate 9 0 ++ F) ++ List.replicate (12 - 9) 0) k).drop 9 = fillStep F k) := by
          have e1 : offF ((List.replicate 9 0 ++ F) ++ List.replicate (12 - 9) 0) k = _ := offF_yes HOK.out HKG.out
          show _ = _
          rw [e1]
          exact HFE.out
        clear hg1 hg2 hB1 ho hmk2 c0 c2 HB9 HX1
        go_wp2_with fail
        ((with_reducible refine (unmaskHeader _ _ _ _ _ (List.replicate 9 0 ++ F) k w1 HO.out.ints (by omega)).mono ?_); rintro e w2 ⟨A2, rfl, ho2, hb2⟩)
        rw [hl12] at ho2 ⊢
        obtain ⟨b6, off6, rfl, _⟩ := ho2.ints.at_ (k := 0) (by omega)
        have hsub := ho2.ints.sub_ (k := 9) (m := 3) (by omega)
        rw [HE.out, List.take_of_length_le (by rw [fillStep_len, HFL.out]; omega), ← HF.out] at hsub
        have hbw := HB1.out.trans (hb2.mono HB1.out.size)
        have HN : Hid (LoopRel w w2 L (0 + 1) (some ⟨b2, 0, none⟩) (some ⟨b6, off6 + 9, none⟩) 3 (12 - 9)) :=
          ⟨Chain.below hbw (Nat.le_refl _) HC2.out, hsub.mono (by have := HBW.out.size; have := HB1.out.size; omega) (Nat.le_refl _), HBW.out.trans (hbw.mono HBW.out.size)⟩
        have e2 := (hb2.cell (p := ⟨b, 2, none⟩) (show b < w1.heap.size by have := HB1.out.size; omega)).trans d2
        clear ho2 hb2 hsub hbw HO HB1 d0 d2 HE hl12
        go_wp2
        go_roundw
        case rel => exact ⟨0 + 1, _, _, 3, _, hlt, rfl, rfl, rfl, HN.out⟩
        case measure => simp [lenOf]
      · clear hm d0 hfit hs h1 h3
        have HB9 := Lib.hid hb9
        clear hb9
        go_wp2_with (with_reducible refine wpList_copy_splice rfl _ _ _ _ rfl 3 underInts sizeInt _ _ _ _ _ _ rfl rfl wr.heap.size 6 (vals (zeros 9)) 3 ?hg (vals F) ?hn ?hpos ?hfit ?h1 wr.heap.size wr ?hb ?hBg ?h)
        case hg => exact heap_alloc_new wr _
        case hn => simp only [vals, List.length_map, HFL.out]; rfl
        case hpos =>
          intro hpos
          have hn0 : 0 < F.length := by simpa [vals] using hpos
          obtain ⟨b5, off5, e5, _, _, hz5, hc5⟩ := HX1.out.2.2.2 (by omega)
          subst e5
          refine ⟨_, rfl, fun j v hv => ?_⟩
          have hj : j < F.length := by
            have := (List.getElem?_eq_some_iff.1 hv).1
            simpa [vals] using this
          rw [Addr.add_mid, hc5 j (by rw [← HFL.out]; exact hj)]
          simp only [vals, List.getElem?_map, Option.map_eq_some_iff] at hv
          obtain ⟨y, hy, rfl⟩ := hv
          rw [List.getD_eq_getElem?_getD, hy]; rfl
        case hfit => simp only [vals, List.length_map, HFL.out, zeros_len]; omega
        case h1 => intro v hv; obtain ⟨y, _, rfl⟩ := List.mem_map.1 hv; rfl
        case hb => exact HB9.out
        case hBg => exact Nat.le_refl _
        case h =>
        intro w1 hg1 hB1
        have hg2 : w1.heap[wr.heap.size]? = some (.cells (vals (List.replicate 6 0 ++ F)).toArray 3 (0, 0)) := by
          have h := hg1.out
          rw [show splice (vals (zeros 9)) 6 (vals F) = vals (List.replicate 6 0 ++ F) from HLZ.out] at h
          exact h
        have ho := own_block hg2 (by rw [show (List.replicate 6 (0 : Int) ++ F).length = 9 from HLEN.out]; simp [maxLen])
        rw [show (List.replicate 6 (0 : Int) ++ F).length = 9 from HLEN.out] at ho
        have HO := Lib.hid ho
        have HB1 := Lib.hid hB1
        have d0 := (hB1.cell (p := ⟨b, 0, none⟩) hb).trans c0
        have d2 := (hB1.cell (p := ⟨b, 2, none⟩) hb).trans c2
        have hl12 : (offF ((List.replicate 6 0 ++ F) ++ List.replicate (12 - 9) 0) k).length = 12 := by
          have e0 := offF_yes HOK.out HKG.out
          have e1 : offF ((List.replicate 6 0 ++ F) ++ List.replicate (12 - 9) 0) k = _ := e0
          rw [e1, offL_len]
          simp [HFL.out]
        have HE : Hid ((offF ((List.replicate 6 0 ++ F) ++ List.replicate (12 - 9) 0) k).drop 6 = fillStep F k) := by
          have e1 : offF ((List.replicate 6 0 ++ F) ++ List.replicate (12 - 9) 0) k = _ := offF_yes HOK.out HKG.out
          show _ = _
          rw [e1]
          exact HFE.out
        clear hg1 hg2 hB1 ho hmk2 c0 c2 HB9 HX1
        go_wp2_with fail
        ((with_reducible refine (unmaskHeader _ _ _ _ _ (List.replicate 6 0 ++ F) k w1 HO.out.ints (by omega)).mono ?_); rintro e w2 ⟨A2, rfl, ho2, hb2⟩)
        rw [hl12] at ho2 ⊢
        obtain ⟨b6, off6, rfl, _⟩ := ho2.ints.at_ (k := 0) (by omega)
        have hsub := ho2.ints.sub_ (k := 6) (m := 6) (by omega)
        rw [HE.out, List.take_of_length_le (by rw [fillStep_len, HFL.out]; omega), ← HF.out] at hsub
        have hbw := HB1.out.trans (hb2.mono HB1.out.size)
        have HN : Hid (LoopRel w w2 L (1 + 1) (some ⟨b2, 0, none⟩) (some ⟨b6, off6 + 6, none⟩) 6 (12 - 6)) :=
          ⟨Chain.below hbw (Nat.le_refl _) HC2.out, hsub.mono (by have := HBW.out.size; have := HB1.out.size; omega) (Nat.le_refl _), HBW.out.trans (hbw.mono HBW.out.size)⟩
        have e2 := (hb2.cell (p := ⟨b, 2, none⟩) (show b < w1.heap.size by have := HB1.out.size; omega)).trans d2
        clear ho2 hb2 hsub hbw HO HB1 d0 d2 HE hl12
        go_wp2
        go_roundw
        case rel => exact ⟨1 + 1, _, _, 6, _, hlt, rfl, rfl, rfl, HN.out⟩
        case measure => simp [lenOf]
    · have hls : s = L.length - 1 := by omega
      obtain rfl : L2 = [] := by rw [← hL2]; exact List.drop_eq_nil_of_le (by omega)
      obtain rfl : u = none := hc2.out
      have HP : Hid (IntsPost (fillF (L.map Prod.fst)) w (.returned (.slice A m c)) wr) := by
        have e := fillAt_all (keys := L.map Prod.fst) (k := s) (by simp; exact hls)
        have h2 := hT.out.2.1
        rw [e] at h2
        have hl := h2.1
        subst hl
        exact ⟨A, c, rfl, h2, hT.out.2.2⟩
      clear hT hch hc2 hL hL2 hm
      go_wp2
      go_ret
      exact HP.out

def BodyRel (w wr : World) (L : List (Int × Int)) (bd : List Int) (s : Nat) (a : Option Addr) (A : Option Addr) (c : Nat) : Prop :=
  Chain wr a (L.drop s) ∧ (∃ lo, lo ≤ wr.heap.size ∧ (0 < s → w.heap.size ≤ lo) ∧ Il.Own lo wr.heap.size wr A 6 c (((L.map Prod.fst).take s).foldl onL bd)) ∧ Below w.heap.size w wr
set_option maxRecDepth 20000 in
theorem maskBody (a : Option Addr) (L : List (Int × Int)) (lo hi : Nat) (A : Option Addr) (c : Nat) (bd : List Int) (w : World) (hc : Chain w a L) (hg : ∀ p ∈ L, inG p.1 = true) (h1 : 1 ≤ L.length) (h3 : L.length ≤ 3)
    (ho : Il.Own lo hi w A 6 c bd) (hok : okL bd = true) :
    Calls Try.prog 44 #[.pointer a, .slice A 6 c] w (NewInts w (bodyF bd (L.map Prod.fst))) := by
  have HG := Lib.hid hg
  have HOK := Lib.hid hok
  have HLN := Lib.hid ho.1.1
  have HR0 : Hid (BodyRel w w L bd 0 a A c) := ⟨hc, ⟨0, Nat.zero_le _, fun h => absurd h (by omega), (own_hi ho).mono (Nat.zero_le _) (Nat.le_refl _)⟩, Below.refl _ _⟩
  clear hc hg ho hok
  go_enter Try.func44, Try.ntmps44
  go_wp2
  go_loopg [0, 1] L.length (fun g v f wr => ∃ (s : Nat) (a A : Option Addr) (c : Nat), s + g = L.length ∧ v = .pointer a ∧ f = .slice A 6 c ∧ Hid (BodyRel w wr L bd s a A c))
  case atStart => exact ⟨0, a, _, c, by omega, rfl, rfl, HR0.out⟩
  case round =>
    obtain ⟨s, a, A, c, hs, rfl, rfl, hT⟩ := hrel
    clear HR0
    have hsl : (((L.map Prod.fst).take s).foldl onL bd).length = 6 := by
      have := body_len ((L.map Prod.fst).take s) bd
      unfold bodyF at this
      rw [this, HLN.out]
    have hso : okL (((L.map Prod.fst).take s).foldl onL bd) = true := body_ok ((L.map Prod.fst).take s) bd HOK.out
    have HSL := Lib.hid hsl
    have HSO := Lib.hid hso
    clear hsl hso
    by_cases hlt : s < L.length
    · obtain ⟨k, x, L2, hL⟩ : ∃ k x L2, L.drop s = (k, x) :: L2 := by
        rw [List.drop_eq_getElem_cons hlt]
        exact ⟨_, _, _, rfl⟩
      have hch := hT.out.1
      rw [hL] at hch
      obtain ⟨b, u, rfl, hb, c0, c1, c2, hc2⟩ := hch.cells
      have hL2 : L.drop (s + 1) = L2 := by
        have := congrArg List.tail hL
        rwa [List.tail_drop] at this
      have HC2 : Hid (Chain wr u (L.drop (s + 1))) := by show Chain _ _ _; rw [hL2]; exact hc2.out
      have hkg := HG.out _ (show (k, x) ∈ L from List.mem_of_mem_drop (by rw [hL]; simp))
      have HKG : Hid (inG k = true) := hkg
      have hkl : s < (L.map Prod.fst).length := by simp; omega
      have hkk : (L.map Prod.fst).getD s 0 = k := by
        rw [List.getD_eq_getElem?_getD, List.getElem?_map, ← List.head?_drop, hL]; rfl
      have HF : Hid (((L.map Prod.fst).take (s + 1)).foldl onL bd = onL (((L.map Prod.fst).take s).foldl onL bd) k) := by
        show _ = _
        rw [bodyTo_succ hkl, hkk]
      obtain ⟨lo0, hlo, _, hown⟩ := hT.out.2.1
      have HO := Lib.hid hown
      have HBW := Lib.hid hT.out.2.2
      generalize ((L.map Prod.fst).take s).foldl onL bd = F at HF HO HSL HSO
      have HM := Lib.hid (onF_yes HSO.out HKG.out)
      have HML : Hid ((onL F k).length = 6) := by show _ = _; rw [onL_len, HSL.out]
      clear hch hc2 hL hL2 hT hown hkg hkl hkk
      go_wp2_with fail
      ((with_reducible refine (MaskOn _ _ _ _ _ F k wr HO.out.ints).mono ?_); rintro e w2 ⟨A2, c3, rfl, ho2, hb2⟩)
      rw [HM.out, HML.out] at ho2 ⊢
      have e2 := (hb2.cell (p := ⟨b, 2, none⟩) hb).trans c2
      rw [← HF.out] at ho2
      have HN : Hid (BodyRel w w2 L bd (s + 1) u A2 c3) := ⟨Chain.below hb2 (Nat.le_refl _) HC2.out, ⟨wr.heap.size, hb2.size, fun _ => HBW.out.size, ho2⟩, HBW.out.trans (hb2.mono HBW.out.size)⟩
      clear ho2 hb2 c0 c1 c2
      go_wp2
      go_roundg (L.length - (s + 1))
      case rel => exact ⟨s + 1, u, A2, c3, by omega, rfl, rfl, HN.out⟩
      case measure => omega
    · have hL : L.drop s = [] := List.drop_eq_nil_of_le (by omega)
      have hch := hT.out.1
      rw [hL] at hch
      obtain rfl : a = none := hch
      have HP : Hid (NewInts w (bodyF bd (L.map Prod.fst)) (.returned (.slice A 6 c)) wr) := by
        obtain ⟨lo0, hlo, hls, hown⟩ := hT.out.2.1
        have e : ((L.map Prod.fst).take s).foldl onL bd = bodyF bd (L.map Prod.fst) := by
          unfold bodyF
          rw [List.take_of_length_le (by simp; omega)]
        rw [e] at hown
        have hl := HSL.out
        rw [e] at hl
        refine ⟨A, c, by rw [hl], ?_, hT.out.2.2⟩
        rw [hl]
        exact hown.mono (hls (by omega)) (Nat.le_refl _)
      clear hT hL
      go_wp2
      go_ret
      exact HP.out

end Im5
end Go.Proofs.Ytdejnbbfdbafnaa
