/-
  Contracts of the program's chapter 23: pieces added up.
-/
import Derived.Test.YtoghgliijjfppabIm11b
namespace Go.Proofs.Ytoghgliijjfppab
open Go.RowKit
namespace Im11
open Il Sl Fo Cm Cs Gm Mm Pc Im2 Im4 Chn

/-- The first k numbers of a sum. -/
def mixT (s : Int) (f p : T3) (k : Nat) : T3 := (if 0 < k then (ad s f p).1 else f.1, if 1 < k then (ad s f p).2.1 else f.2.1, if 2 < k then (ad s f p).2.2 else f.2.2)
theorem mix0 (s : Int) (f p : T3) : mixT s f p 0 = f := rfl
theorem mix3 (s : Int) (f p : T3) : mixT s f p 3 = ad s f p := rfl
def cells3 (p : T3) : Array Value := #[.int .i64 p.1, .int .i64 p.2.1, .int .i64 p.2.2]
/-- One number of a sum, as it is reckoned. -/
theorem step_one {s a x : Int} (hs : s = 1 ∨ s = -1) (ha : 0 ≤ a ∧ a ≤ 990) (hx : 0 ≤ x ∧ x ≤ 990) :
    IntKind.i64.wrap (s * x) = s * x ∧ IntKind.i64.wrap (a + s * x) = a + s * x ∧ IntKind.i64.wrap (a + s * x + 991) = a + s * x + 991 ∧ (a + s * x + 991).tmod 991 = (a + s * x + 991) % 991 := by
  rcases hs with rfl | rfl
  · exact ⟨IntWalk.i64_in _ (by omega), IntWalk.i64_in _ (by omega), IntWalk.i64_in _ (by omega), Int.tmod_eq_emod_of_nonneg (by omega)⟩
  · exact ⟨IntWalk.i64_in _ (by omega), IntWalk.i64_in _ (by omega), IntWalk.i64_in _ (by omega), Int.tmod_eq_emod_of_nonneg (by omega)⟩
/-- What withPieces has added. -/
def WRel (w wr : World) (c n : Nat) (s : Int) (f : T3) (ps : List (List Int)) (j : Nat) : Prop :=
  Blk wr w.heap.size (cells3 (sumP s f (ps.take j))) 52 ∧ wr.heap[c]? = some (.chan n (bufP z3 (ps.drop j)) true n j false) ∧ (∃ v0 v1 v2, Blk wr (w.heap.size + 1) #[v0, v1, v2] 52) ∧ Below w.heap.size w wr
/-- .. in a round. -/
def WIn (w wr : World) (c n : Nat) (s : Int) (f p : T3) (ps : List (List Int)) (j k : Nat) : Prop :=
  Blk wr w.heap.size (cells3 (mixT s f p k)) 52 ∧ wr.heap[c]? = some (.chan n (bufP z3 (ps.drop j)) true n j false) ∧ (∃ v0 v1 v2, Blk wr (w.heap.size + 1) #[v0, v1, v2] 52) ∧ Below w.heap.size w wr
theorem WIn.put {w wr : World} {c n : Nat} {s : Int} {f p : T3} {ps : List (List Int)} {j k : Nat} (h : WIn w wr c n s f p ps j k) (hc : w.heap.size + 1 < c) (i : Nat) (v : Value)
    (hq : (cells3 (mixT s f p k)).setIfInBounds i v = cells3 (mixT s f p (k + 1))) : WIn w (wr.setCell ⟨w.heap.size, i, none⟩ v) c n s f p ps j (k + 1) := by
  obtain ⟨h1, h2, ⟨v0, v1, v2, h3⟩, h4⟩ := h
  refine ⟨?_, (Below.heap_setCell _ _ _ _ (by show c ≠ w.heap.size; omega)).trans h2, ⟨v0, v1, v2, h3.same (Below.heap_setCell _ _ _ _ (by show w.heap.size + 1 ≠ w.heap.size; omega))⟩, h4.setCell (p := ⟨w.heap.size, i, none⟩) (Nat.le_refl _) v⟩
  rw [← hq]
  exact heap_setCell_same _ _ _ _ _ _ h1
theorem underP : Try.prog.underlying 52 = some (.array 3 3) := by kernel_rfl
theorem partAt (xs : Array Value) (k : Nat) (x : Int) (w : World) (h : xs[k]? = some (.int .i64 x)) : (part 3 xs k).run Try.prog w = .ok (.int .i64 x) w := by
  have := Try.isAgg3 w
  simp [part, this, h]
theorem emod_more (a : Int) : a % 991 = (a + 991) % 991 := by omega
theorem idx_at (x y z : Int) (w : World) : (Instr.index 52 (.agg #[.int .i64 x, .int .i64 y, .int .i64 z]) (.int .i64 0)).run Try.prog w = .ok (.int .i64 x) w ∧
    (Instr.index 52 (.agg #[.int .i64 x, .int .i64 y, .int .i64 z]) (.int .i64 1)).run Try.prog w = .ok (.int .i64 y) w ∧
    (Instr.index 52 (.agg #[.int .i64 x, .int .i64 y, .int .i64 z]) (.int .i64 2)).run Try.prog w = .ok (.int .i64 z) w := by
  have hs := Try.sizeOf3 w
  refine ⟨?_, ?_, ?_⟩ <;> simp [Instr.index, run_underlying underP, hs, partAt, asIntOf]
/-- The sum. -/
def SumP (s : Int) (f : T3) (ps : List (List Int)) (w : World) (e : Ending) (w' : World) : Prop := e = .returned (v3 (sumP s f ps)) ∧ Below w.heap.size w w'
set_option maxRecDepth 20000 in
set_option maxHeartbeats 2000000 in
theorem withPieces (lo hi : Nat) (A : Option Addr) (n c : Nat) (ps : List (List Int)) (s : Int) (f : T3) (w : World) (hx : Sts lo hi w A n c ps) (hn : n ≤ 1000) (hs : s = 1 ∨ s = -1) (hf : in3 f) (hps : ∀ x ∈ ps, in3 (fil z3 x)) :
    Calls Try.prog 42 #[v3 f, .slice A n c, .int .i64 s] w (SumP s f ps w) := by
  have HL := Lib.hid hx.len_
  have h0 : Below w.heap.size w (w.alloc (.cells #[.int .i64 f.1, .int .i64 f.2.1, .int .i64 f.2.2] 52)) := (Below.refl _ _).alloc (Nat.le_refl _) _
  have h1 := h0.alloc h0.size (.cells #[.int .i64 0, .int .i64 0, .int .i64 0] 52)
  have HX := Lib.hid (hx.below h1 (Nat.le_refl _))
  have HB1 := Lib.hid h1
  have HK0 : Hid (Blk ((w.alloc (.cells #[.int .i64 f.1, .int .i64 f.2.1, .int .i64 f.2.2] 52)).alloc (.cells #[.int .i64 0, .int .i64 0, .int .i64 0] 52)) w.heap.size (cells3 f) 52 ∧
      Blk ((w.alloc (.cells #[.int .i64 f.1, .int .i64 f.2.1, .int .i64 f.2.2] 52)).alloc (.cells #[.int .i64 0, .int .i64 0, .int .i64 0] 52)) (w.heap.size + 1) #[.int .i64 0, .int .i64 0, .int .i64 0] 52) := by
    obtain ⟨q1, q2, _, _⟩ := Ck.two_blocks w (cells3 f) #[.int .i64 0, .int .i64 0, .int .i64 0] 52 52
    exact ⟨q1, q2⟩
  have HPS := Lib.hid hps
  have HF := Lib.hid hf
  have hsz1 : ((w.alloc (.cells #[.int .i64 f.1, .int .i64 f.2.1, .int .i64 f.2.2] 52)).alloc (.cells #[.int .i64 0, .int .i64 0, .int .i64 0] 52)).heap.size = w.heap.size + 1 + 1 := by simp
  clear hx h0 h1 hps hf
  go_enter Try.func42, Try.ntmps42
  go_wp2_with fail
  ((with_reducible refine (passPieces0 _ _ _ _ _ ps _ HX.out hn).mono ?_); rintro e w2 ⟨ch, rfl, hch, hcl, hb2⟩)
  rw [hsz1] at hcl hb2
  have HR0 : Hid (WRel w w2 ch n s f ps 0) := by
    refine ⟨(HK0.out.1).below hb2 (by omega), hch, ⟨_, _, _, (HK0.out.2).below hb2 (by omega)⟩, HB1.out.trans (hb2.mono (by omega))⟩
  clear hch hb2 HX HB1 HK0 hsz1
  go_wp2
  go_loopw [17] (fun _ wr => ∃ j : Nat, j ≤ ps.length ∧ Hid (WRel w wr ch n s f ps j)) (fun _ wr => chLen wr ch)
  case atStart => exact ⟨0, Nat.zero_le _, HR0.out⟩
  case round =>
    obtain ⟨j, hj, hR⟩ := hrel
    clear HR0
    obtain ⟨k0, k1, k2, k3⟩ := hR.out
    by_cases hlt : j < ps.length
    · obtain ⟨d1, d2, d3⟩ := drop_buf (f := z3) hlt
      have hcz2 := (Array.getElem?_eq_some_iff.1 k1).1
      have HTS := Lib.hid (Ck.take_slot hlt)
      have HLT := Lib.hid hlt
      have HM : Hid (chLen wr ch = ps.length - j) := by show _ = _; rw [chLen_of k1, bufP_size, List.length_drop]
      have hxj : in3 (fil z3 (slAt ps j)) := HPS.out _ (by unfold slAt; rw [List.getD_eq_getElem?_getD, List.getElem?_eq_getElem hlt]; exact List.getElem_mem hlt)
      have hxs : in3 (sumP s f (ps.take j)) := sumP_in HF.out _
      clear hlt
      go_step
      go_step
      refine Chn.wp_region_to (id := 2) ?_
      refine ListTo.recv rfl rfl (c := ch) (z := v3 z3) ?_ k1 d3 ?_
      · go_simp
        rfl
      rw [d1, d2]
      refine ListTo.rest (show wpList _ _ _ [_] _ _ from ?_)
      obtain ⟨W, hW⟩ : ∃ W, wr.setChan ch n (bufP z3 (ps.drop (j + 1))) true n (j + 1) false = W := ⟨_, rfl⟩
      have hfar : ∀ x, x ≠ ch → W.heap[x]? = wr.heap[x]? := fun x h => by rw [← hW]; exact setChan_far _ _ _ h
      have hWc : W.heap[ch]? = some (.chan n (bufP z3 (ps.drop (j + 1))) true n (j + 1) false) := by rw [← hW]; exact Go.Conc.heap_setChan _ _ _ _ _ _ _ _ hcz2
      have hWb : Below w.heap.size wr W := by rw [← hW]; exact Go.Conc.below_setChan (Below.refl _ _) (by omega) _ _ _ _ _ _
      have HWI : Hid (WIn w W ch n s (sumP s f (ps.take j)) (fil z3 (slAt ps j)) ps (j + 1) 0) := by
        obtain ⟨v0, v1, v2, k2⟩ := k2
        exact ⟨k0.same (hfar _ (by omega)), hWc, ⟨v0, v1, v2, k2.same (hfar _ (by omega))⟩, k3.trans hWb⟩
      rw [hW]
      have HAD : Hid (sumP s f (ps.take (j + 1)) = ad s (sumP s f (ps.take j)) (fil z3 (slAt ps j))) := by show _ = _; rw [← HTS.out, sumP_snoc]
      clear k0 k1 k2 k3 d1 d2 d3 hR hWb hW hcz2 hWc hfar
      generalize fil z3 (slAt ps j) = p at *
      generalize sumP s f (ps.take j) = q at *
      have HWJ : Hid (WIn w (W.alloc (.cells #[.int .i64 p.1, .int .i64 p.2.1, .int .i64 p.2.2] 52)) ch n s q p ps (j + 1) 0) := by
        obtain ⟨h1, h2, ⟨v0, v1, v2, h3⟩, h4⟩ := HWI.out
        have hal : Below W.heap.size W (W.alloc (.cells #[.int .i64 p.1, .int .i64 p.2.1, .int .i64 p.2.2] 52)) := (Below.refl _ _).alloc (Nat.le_refl _) _
        exact ⟨h1.below hal (Nat.le_refl _), (hal.block _ (Array.getElem?_eq_some_iff.1 h2).1).trans h2, ⟨v0, v1, v2, h3.below hal (Nat.le_refl _)⟩, h4.alloc h4.size _⟩
      clear HWI
      go_wp2
      go_loopw [17] (fun i W2 => ∃ k : Nat, k ≤ 3 ∧ i = .int .i64 k ∧ Hid (WIn w W2 ch n s q p ps (j + 1) k)) (fun i _ => 3 - (intOf i).toNat)
      case atStart => exact ⟨0, by omega, rfl, HWJ.out⟩
      case round =>
        obtain ⟨k, hk, rfl, hI⟩ := hrel
        clear HWJ
        have hchl : w.heap.size + 1 < ch := by omega
        have hix := fun w => (idx_at p.1 p.2.1 p.2.2 w).1
        have hiy := fun w => (idx_at p.1 p.2.1 p.2.2 w).2.1
        have hiz := fun w => (idx_at p.1 p.2.1 p.2.2 w).2.2
        obtain ⟨z0, z1, z2, zf⟩ := three_cells hI.out.1
        obtain rfl | rfl | rfl | rfl : k = 0 ∨ k = 1 ∨ k = 2 ∨ k = 3 := by omega
        · obtain ⟨e1, e2, e3, e4⟩ := step_one hs hxs.1 hxj.1
          have HN := Lib.hid (hI.out.put hchl 0 (.int .i64 ((q.1 + s * p.1) % 991)) (by rw [emod_more]; rfl))
          simp only [mixT, Nat.lt_irrefl, if_false, Nat.not_lt_zero] at z0 z1 z2
          clear hI
          go_wp2
          go_roundw
          case rel => exact ⟨1, by omega, rfl, HN.out⟩
          case measure => decide
        · obtain ⟨e1, e2, e3, e4⟩ := step_one hs hxs.2.1 hxj.2.1
          have HN := Lib.hid (hI.out.put hchl 1 (.int .i64 ((q.2.1 + s * p.2.1) % 991)) (by rw [emod_more]; rfl))
          simp only [mixT, show 0 < 1 from by omega, show ¬ 1 < 1 from by omega, show ¬ 2 < 1 from by omega, if_false, if_true] at z0 z1 z2
          clear hI
          go_wp2
          go_roundw
          case rel => exact ⟨2, by omega, rfl, HN.out⟩
          case measure => decide
        · obtain ⟨e1, e2, e3, e4⟩ := step_one hs hxs.2.2 hxj.2.2
          have HN := Lib.hid (hI.out.put hchl 2 (.int .i64 ((q.2.2 + s * p.2.2) % 991)) (by rw [emod_more]; rfl))
          simp only [mixT, show 0 < 2 from by omega, show 1 < 2 from by omega, show ¬ 2 < 2 from by omega, if_false, if_true] at z0 z1 z2
          clear hI
          go_wp2
          go_roundw
          case rel => exact ⟨3, by omega, rfl, HN.out⟩
          case measure => decide
        · have HR6 : Hid (WRel w wr ch n s f ps (j + 1)) := by
            obtain ⟨h1, h2, h3, h4⟩ := hI.out
            rw [mix3, ← HAD.out] at h1
            exact ⟨h1, h2, h3, h4⟩
          have HME : Hid (chLen wr ch < ps.length - j) := by
            show _ < _
            rw [chLen_of HR6.out.2.1, bufP_size, List.length_drop]
            have := HLT.out
            omega
          clear hI z0 z1 z2 zf
          go_wp2
          go_roundw
          case rel => exact ⟨j + 1, HLT.out, HR6.out⟩
          case measure => rw [HM.out]; exact HME.out
    · obtain rfl : j = ps.length := by omega
      rw [List.drop_length] at k1
      rw [List.take_length] at k0
      go_step
      go_step
      refine Chn.wp_region_to (id := 2) ?_
      refine ListTo.shut rfl rfl (c := ch) (z := v3 z3) ?_ k1 ?_
      · go_simp
        rfl
      refine ListTo.rest (show wpList _ _ _ [_] _ _ from ?_)
      obtain ⟨v0, v1, v2, k2⟩ := k2
      obtain ⟨z0, z1, z2, zf⟩ := three_cells k0
      obtain ⟨y0, y1, y2, yf⟩ := three_cells k2
      have HB := Lib.hid k3
      have HFIN : Hid (∀ W', Below w.heap.size w W' → SumP s f ps w (.returned (v3 (sumP s f ps))) W') := fun W' h => ⟨rfl, h⟩
      clear k0 k1 k2 k3 hlt hR
      generalize sumP s f ps = q at *
      go_wp2
      refine bodyPost_ret (v := v3 q) ?_ rfl ?_
      · rw [results_cell1 rfl]
        go_simp
      · exact HFIN.out _ (((HB.out.setCell (p := ⟨w.heap.size + 1, 0, none⟩) (Nat.le_succ _) _).setCell (p := ⟨w.heap.size + 1, 1, none⟩) (Nat.le_succ _) _).setCell (p := ⟨w.heap.size + 1, 2, none⟩) (Nat.le_succ _) _)

end Im11
end Go.Proofs.Ytoghgliijjfppab
