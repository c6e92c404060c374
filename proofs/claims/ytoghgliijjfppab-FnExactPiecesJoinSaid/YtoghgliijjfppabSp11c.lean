/-
  Contracts of the model's chapter 23: the parity of pieces.
-/
import Derived.Test.YtoghgliijjfppabSp11b
import Derived.Laws.MakeOwn
import Derived.BigRegion
namespace Go.Proofs.Ytoghgliijjfppab
open Go.RowKit
namespace Sp11
open Il Sl Fo Cm Cs Gm Mm Pc Sp2

/-- What is added up, while pieces are read. -/
def ParR (w wr : World) (b : Nat) (A : Option Addr) (n c : Nat) (ps : List (List Int)) (ys : List Int) : Prop :=
  Il.Own w.heap.size wr.heap.size wr (some ⟨b, 0, none⟩) 3 3 ys ∧ Sts 0 w.heap.size wr A n c ps ∧ Below w.heap.size w wr
theorem ParR.dr {w wr : World} {b n c : Nat} {A : Option Addr} {ps : List (List Int)} {ys : List Int} (h : ParR w wr b A n c ps ys) (d : Nat) : ParR w (wr.drewN d) b A n c ps ys := ⟨h.1, h.2.1, Ck.below_dr h.2.2⟩
theorem ParR.put {w wr : World} {b n c : Nat} {A : Option Addr} {ps : List (List Int)} {ys : List Int} (h : ParR w wr b A n c ps ys) {k : Nat} (hk : k < 3) (v : Int) : ParR w (wr.setCell ⟨b, k, none⟩ (.int .i64 v)) b A n c ps (ys.set k v) := by
  obtain ⟨h1, h2, h3⟩ := h
  obtain ⟨b', off, e, q1, q2, q3, _⟩ := h1.1.2.2.2 (by omega)
  simp only [Option.some.injEq, Addr.mk.injEq, and_true] at e
  obtain ⟨rfl, rfl⟩ := e
  have h4 := h1.set_ hk v
  rw [Nat.zero_add] at h4
  have hb : Below w.heap.size wr (wr.setCell ⟨b, k, none⟩ (.int .i64 v)) := (Below.refl _ _).setCell (p := ⟨b, k, none⟩) q1 _
  exact ⟨h4.mono (Nat.le_refl _) hb.size, h2.below' hb (Nat.le_refl _), h3.trans hb⟩
theorem slice_pos {ps : List (List Int)} {j : Nat} (h : ∀ x ∈ ps, pieceOk x = true) (hj : j < ps.length) : (slAt ps j).length = 3 ∧ in3 (fil z3 (slAt ps j)) := by
  have hm : slAt ps j ∈ ps := by unfold slAt; rw [List.getD_eq_getElem?_getD, List.getElem?_eq_getElem hj]; exact List.getElem_mem hj
  exact ⟨(pieceOk_iff.1 (h _ hm)).2, piece_in (h _ hm) _⟩
theorem made3 : madeCells #[Value.int .i64 0] 3 = #[.int .i64 0, .int .i64 0, .int .i64 0] := by
  refine Array.ext (by simp [madeCells]) fun i h1 h2 => ?_
  obtain rfl | rfl | rfl : i = 0 ∨ i = 1 ∨ i = 2 := by simp at h2; omega
  all_goals simp [madeCells]
set_option maxRecDepth 20000 in
set_option maxHeartbeats 2000000 in
theorem PiecesParity (lo hi : Nat) (A : Option Addr) (n c : Nat) (ps : List (List Int)) (w : World) (hx : Sts lo hi w A n c ps) :
    Calls Try.prog 19 #[.slice A n c] w (NewInts w (parF ps)) := by
  have hk1 := hx.max_
  have hk2 := hx.cap_
  have HL := Lib.hid hx.len_
  have HX := Lib.hid hx
  have HE := Lib.hid (acc_new w)
  unfold maxLen at hk1
  have hpm := pcs_miss ps 0
  cases hok : pcsOk ps 0
  · have hne : (missF ps != 0) = true := by
      rw [hok] at hpm
      have := of_decide_eq_false hpm.symm
      simpa using (by omega : ¬ missF ps = 0)
    rw [parF_no hok]
    clear hx hpm hok
    go_enter Try.func19, Try.ntmps19
    go_wp2_with fail
    ((with_reducible refine (l23Missing _ _ _ _ _ ps _ HX.out).mono ?_); rintro e w1 ⟨rfl, rfl⟩)
    generalize missF ps = m at *
    go_wp2
    go_ret
    exact HE.out.post
  have hm0 : missF ps = 0 := by
    rw [hok] at hpm
    have := of_decide_eq_true hpm.symm
    omega
  rw [parF_yes hok]
  have HPO := Lib.hid (pcs0.1 hok).2
  have hmk0 := run_make_row' (P := Try.prog) 22 3 (.int .i64 0) 8 Try.underlying22 infoInt rfl .i64 .i64 3 (by omega) (by omega)
  have hmk : ∀ w : World, (Instr.makeSlice 22 (.int .i64 3) (.int .i64 3)).run Try.prog w = .ok (.slice (some ⟨w.heap.size, 0, none⟩) 3 3) (w.alloc (.cells #[.int .i64 0, .int .i64 0, .int .i64 0] 3)) := by rw [← made3]; exact hmk0
  have HR0 : Hid (ParR w (w.alloc (.cells #[.int .i64 0, .int .i64 0, .int .i64 0] 3)) w.heap.size A n c ps (l3 z3)) := by
    have hal : Below w.heap.size w (w.alloc (.cells #[.int .i64 0, .int .i64 0, .int .i64 0] 3)) := (Below.refl _ _).alloc (Nat.le_refl _) _
    refine ⟨?_, (hx.top (Nat.zero_le _)).below hal (Nat.le_refl _), hal⟩
    have hd : Dest 3 1 (some w.heap.size) (w.alloc (.cells #[.int .i64 0, .int .i64 0, .int .i64 0] 3)) (.slice (some ⟨w.heap.size, 0, none⟩) 3 3) (l3 z3).length ((l3 z3).map (Value.int .i64)) :=
      .inr ⟨_, rfl, 3, rfl, rfl, .inr ⟨w.heap.size, 3, _, rfl, Nat.le_refl _, heap_alloc_new _ _, Nat.le_refl _, by unfold maxLen; omega, rfl, rfl⟩⟩
    obtain ⟨A1, c1, e, ho, _⟩ := Lb.dest_new (w := w) hd (fun k e => by cases e; exact Nat.le_refl _) hal
    cases e
    exact ho
  clear hx hpm hok hmk0
  go_enter Try.func19, Try.ntmps19
  go_wp2_with fail
  ((with_reducible refine (l23Missing _ _ _ _ _ ps _ HX.out).mono ?_); rintro e w1 ⟨rfl, rfl⟩)
  rw [hm0]
  clear hm0
  go_wp2
  clear hmk
  go_loopw [4] (fun i wr => ∃ j : Nat, j ≤ n ∧ i = .int .i64 j ∧ Hid (ParR w wr w.heap.size A n c ps (l3 (sumP 1 z3 (ps.take j))))) (fun i _ => n - (intOf i).toNat)
  case atStart => exact ⟨0, Nat.zero_le _, rfl, HR0.out⟩
  case round =>
    obtain ⟨j, hj, rfl, hR⟩ := hrel
    clear HR0
    by_cases hlt : j < n
    · obtain ⟨hx3, hxi⟩ := slice_pos (j := j) HPO.out (by rw [HL.out]; exact hlt)
      have HX3 := Lib.hid hx3
      have HXF : Hid (l3 (fil z3 (slAt ps j)) = slAt ps j) := fil_full hx3
      have HAD : Hid (l3 (sumP 1 z3 (ps.take (j + 1))) = l3 (ad 1 (sumP 1 z3 (ps.take j)) (fil z3 (slAt ps j)))) := by show _ = _; rw [← Ck.take_slot (by rw [HL.out]; exact hlt), sumP_snoc]
      have hqi : in3 (sumP 1 z3 (ps.take j)) := sumP_in z3_in _
      have hw2 : IntKind.i64.wrap ((j : Int) + 1) = (j : Int) + 1 := IntWalk.i64_in _ (by omega)
      clear hx3
      generalize sumP 1 z3 (ps.take j) = f at *
      generalize fil z3 (slAt ps j) = p at *
      go_wp2
      go_loopw [5] (fun i W => ∃ k : Nat, k ≤ 3 ∧ i = .int .i64 k ∧ Hid (ParR w W w.heap.size A n c ps (l3 (mixT 1 f p k)))) (fun i _ => 3 - (intOf i).toNat)
      case atStart => exact ⟨0, by omega, rfl, hR.out⟩
      case round =>
        obtain ⟨k, hk, rfl, hI⟩ := hrel
        clear hR
        by_cases hk3 : k < 3
        · obtain ⟨r1, r2, r3⟩ := hI.out
          obtain ⟨b, off, B, e, rfl, _, hbw, hbz, cB, iB⟩ := r2.at_ hlt
          rw [HX3.out] at cB iB
          obtain ⟨b2, off2, rfl, _, _, c2⟩ := iB.at_ hk3
          obtain ⟨b3, off3, e3, _, _, c3⟩ := r1.1.at_ hk3
          simp only [Option.some.injEq, Addr.mk.injEq, and_true] at e3
          obtain ⟨rfl, rfl⟩ := e3
          have hfz := r1.2 _ _ (by omega) rfl k hk3
          rw [Nat.zero_add] at c3 hfz
          have hb1 := mix_in (s := 1) (p := p) (k := k) hqi hk3
          have hb2 := l3_in hxi hk3
          have HPUT : Hid (∀ v, v = ((l3 (mixT 1 f p k)).getD k 0 + (slAt ps j).getD k 0) % 991 → ParR w (wr.setCell ⟨w.heap.size, k, none⟩ (.int .i64 v)).drew w.heap.size (some ⟨b, off, none⟩) n c ps (l3 (mixT 1 f p (k + 1)))) := fun v hv => by
            have h := (hI.out.put hk3 v).dr 1
            rw [hv, ← HXF.out] at h ⊢
            rw [mix_put _ _ hk3] at h
            exact h
          rw [HXF.out] at hb2
          clear r1 r2 r3 hI iB
          generalize (l3 (mixT 1 f p k)).getD k 0 = a at *
          generalize (slAt ps j).getD k 0 = x at *
          have e1 : IntKind.i64.wrap (a + x) = a + x := IntWalk.i64_in _ (by omega)
          have e2 : (a + x).tmod 991 = (a + x) % 991 := Int.tmod_eq_emod_of_nonneg (by omega)
          go_wp2
          go_region
          have HN := Lib.hid (HPUT.out _ rfl)
          clear HPUT cB c2 c3 hfz e1 e2
          generalize (wr.setCell ⟨w.heap.size, k, none⟩ (.int .i64 ((a + x) % 991))).drew = W4 at *
          go_wp2
          go_roundw
          case rel => exact ⟨k + 1, by omega, by go_num, HN.out⟩
          case measure => simp [intOf]; omega
        · obtain rfl : k = 3 := by omega
          have HN : Hid (ParR w wr w.heap.size A n c ps (l3 (sumP 1 z3 (ps.take (j + 1))))) := by show ParR _ _ _ _ _ _ _ _; rw [HAD.out, ← mix3]; exact hI.out
          clear hI hk3
          go_wp2
          go_roundw
          case rel => exact ⟨j + 1, by omega, by go_num, HN.out⟩
          case measure => simp [intOf]; omega
    · obtain rfl : j = n := by omega
      have HP : Hid (NewInts w (l3 (sumP 1 z3 ps)) (.returned (.slice (some ⟨w.heap.size, 0, none⟩) 3 3)) wr) := by
        have h := hR.out
        rw [List.take_of_length_le (by rw [HL.out]; exact Nat.le_refl _)] at h
        exact ⟨_, 3, rfl, h.1, h.2.2⟩
      clear hR hlt
      go_wp2
      go_ret
      exact HP.out

end Sp11
end Go.Proofs.Ytoghgliijjfppab
