/-
  Contracts of container/heap over the program's heap of waiting packets: moving up and down.
-/
import Derived.Test.YtmnhobapjncbfaaHpn
import Derived.LoopTactic
namespace Go.Proofs.Ytmnhobapjncbfaa
open Go.RowKit
namespace Im6
open Il Gm Mm Tm Lm Pm Pq Hlp5 Sl Mm6 Hp6

theorem heapLen (A : Option Addr) (n c : Nat) (w : World) : Calls Try.prog 43 #[.slice A n c] w fun e w' => e = .returned (.int .i64 n) ∧ w = w' := by
  go_enter Try.func43, Try.ntmps43
  go_wp2
  go_ret
  exact ⟨rfl, rfl⟩
theorem get_at {α : Type} [Inhabited α] {l : List α} {i : Nat} (h : i < l.length) : l[i]? = some (at_ l i) := by rw [at_is h]; exact List.getElem?_eq_getElem h
theorem KeptH.same {hb k : Nat} {w w' : World} (h : SameB k w w') : KeptH hb (some k) w w' := ⟨h.os, h.tape, h.output, Nat.le_of_eq h.size.symm, fun z _ _ h3 => h.block z (fun e => h3 (by rw [e]))⟩
/-- A method of a value that is called through a pointer in an interface. -/
theorem meth_ptr {P : Program} {T E : TypeId} {nm : String} {g : FuncId} (f : Nat) (b : Nat) (v : Value) (w : World)
    (hm : (P.info? T).map (fun i => (i.methods.find? (·.name == nm)).map fun m => (m.path.isEmpty, m.func)) = some (some (true, some (g, false)))) (hu : P.underlying T = some (.pointer E))
    (h : (loadVar E ⟨b, 0, none⟩).run P w = .ok v w) : (method (f + 1) T (.pointer (some ⟨b, 0, none⟩)) nm).run P w = .ok (g, v) w := by
  unfold method
  simp only [Sem.run_bind]
  have ht : ∃ i, (typeInfo T).run P w = .ok i w ∧ (i.methods.find? (·.name == nm)).map (fun m => (m.path.isEmpty, m.func)) = some (true, some (g, false)) := by
    cases hi : P.info? T with
    | none => rw [hi] at hm; simp at hm
    | some i =>
      rw [hi] at hm
      refine ⟨i, ?_, by simpa using hm⟩
      unfold typeInfo
      go_simp
  obtain ⟨i, hi, hm⟩ := ht
  rw [hi]
  simp only [Result.andThen]
  cases hf : i.methods.find? (·.name == nm) with
  | none => rw [hf] at hm; simp at hm
  | some m =>
    rw [hf] at hm
    simp only [Option.map_some, Option.some.injEq, Prod.mk.injEq] at hm
    obtain ⟨h1, h2⟩ := hm
    have h3 : m.path = #[] := by simpa using h1
    have hU : (underlying T).run P w = .ok (.pointer E) w := by
      unfold underlying
      go_simp
    have hr : ∀ wr : Option String, (receiverAt T (.val (.pointer (some ⟨b, 0, none⟩))) false wr).run P w = .ok v w := fun wr => by
      unfold receiverAt
      rw [Sem.run_bind, hU]
      cases wr with
      | none => exact h
      | some s => exact h
    simp only [h2, h3, follow, Sem.run_bind]
    show ((receiverAt T (.val (.pointer (some ⟨b, 0, none⟩))) false _).run P w).andThen (fun v w' => .ok (g, v) w') = _
    rw [hr]
    rfl
theorem load_heap (b : Nat) (v : Value) (w : World) (h : w.cell? ⟨b, 0, none⟩ = some v) : (loadVar 89 ⟨b, 0, none⟩).run Try.prog w = .ok v w := by go_simp
theorem meth_less (b : Nat) (v : Value) (w : World) (h : w.cell? ⟨b, 0, none⟩ = some v) (f : Nat) : (method (f + 1) 66 (.pointer (some ⟨b, 0, none⟩)) "Less").run Try.prog w = .ok (104, v) w :=
  meth_ptr f b v w (by kernel_rfl) (by kernel_rfl) (load_heap b v w h)
theorem meth_swap (b : Nat) (v : Value) (w : World) (h : w.cell? ⟨b, 0, none⟩ = some v) (f : Nat) : (method (f + 1) 66 (.pointer (some ⟨b, 0, none⟩)) "Swap").run Try.prog w = .ok (107, v) w :=
  meth_ptr f b v w (by kernel_rfl) (by kernel_rfl) (load_heap b v w h)
theorem meth_len (b : Nat) (v : Value) (w : World) (h : w.cell? ⟨b, 0, none⟩ = some v) (f : Nat) : (method (f + 1) 66 (.pointer (some ⟨b, 0, none⟩)) "Len").run Try.prog w = .ok (43, v) w :=
  meth_ptr f b v w (by kernel_rfl) (by kernel_rfl) (load_heap b v w h)
theorem meth_push (b : Nat) (w : World) (f : Nat) : (method (f + 1) 66 (.pointer (some ⟨b, 0, none⟩)) "Push").run Try.prog w = .ok (106, .pointer (some ⟨b, 0, none⟩)) w := by kernel_rfl
theorem meth_pop (b : Nat) (w : World) (f : Nat) : (method (f + 1) 66 (.pointer (some ⟨b, 0, none⟩)) "Pop").run Try.prog w = .ok (105, .pointer (some ⟨b, 0, none⟩)) w := by kernel_rfl
set_option maxRecDepth 20000 in
set_option maxHeartbeats 1000000 in
theorem heapUp (hb k n cap j : Nat) (ws : List Wt) (w : World) (hz : Blk w hb #[.slice (some ⟨k, 0, none⟩) n cap] 89) (h : AccV 70 7 k w (.slice (some ⟨k, 0, none⟩) n cap) n (ws.flatMap wcells)) (hn : ws.length = n) (hm : n ≤ 100000) (hj : j < n) (hne : hb ≠ k) (hI : UpInv leW ws n j) :
    Calls Try.prog 82 #[.iface 66 (.pointer (some ⟨hb, 0, none⟩)), .int .i64 j] w
      fun e w' => e = .returned (.tuple #[]) ∧ ∃ ws', ws'.Perm ws ∧ IsHeap leW ws' n ∧ Blk w' hb #[.slice (some ⟨k, 0, none⟩) n cap] 89 ∧ AccV 70 7 k w' (.slice (some ⟨k, 0, none⟩) n cap) n (ws'.flatMap wcells) ∧ KeptH hb (some k) w w' := by
  have HR0 : Hid (ws.Perm ws ∧ UpInv leW ws n j ∧ Blk w hb #[.slice (some ⟨k, 0, none⟩) n cap] 89 ∧ AccV 70 7 k w (.slice (some ⟨k, 0, none⟩) n cap) n (ws.flatMap wcells) ∧ KeptH hb (some k) w w) := ⟨List.Perm.refl _, hI, hz, h, KeptH.refl _ _ _⟩
  clear hI hz h
  go_enter Try.func82, Try.ntmps82
  go_wp2
  go_loopw [1] (fun i wr => ∃ (j : Nat) (vs : List Wt), j < n ∧ i = .int .i64 j ∧ Hid (vs.Perm ws ∧ UpInv leW vs n j ∧ Blk wr hb #[.slice (some ⟨k, 0, none⟩) n cap] 89 ∧ AccV 70 7 k wr (.slice (some ⟨k, 0, none⟩) n cap) n (vs.flatMap wcells) ∧ KeptH hb (some k) w wr)) (fun i _ => (intOf i).toNat)
  case atStart => exact ⟨j, ws, hj, rfl, HR0.out⟩
  case round =>
    clear hj HR0
    obtain ⟨j, vs, hj, rfl, hR⟩ := hrel
    by_cases hj0 : j = 0
    · subst hj0
      go_wp2
      refine bodyPost_end (results_none rfl _ _ _) rfl ?_
      exact ⟨rfl, vs, hR.out.1, up_zero hR.out.2.1, hR.out.2.2.1, hR.out.2.2.2.1, hR.out.2.2.2.2⟩
    · obtain ⟨q, hq, hqp⟩ : ∃ q : Nat, ((j : Int) - 1) / 2 = (q : Int) ∧ q = par j := ⟨par j, by unfold par; omega, rfl⟩
      have hqj : q < j := by rw [hqp]; unfold par; omega
      obtain ⟨hc, _⟩ := one_cell hR.out.2.2.1
      have HQP := Lib.hid hqp
      have hml := meth_less hb _ _ hc
      clear hqp
      go_wp2_with fail
      have hvl : vs.length = n := hR.out.1.length_eq.trans hn
      have gj := get_at (l := vs) (i := j) (by omega)
      have gq := get_at (l := vs) (i := q) (by omega)
      have hup := hR.out.2.1
      have GJ := Lib.hid gj
      have GQ := Lib.hid gq
      have HVL := Lib.hid hvl
      have HUP := Lib.hid hup
      clear gj gq hvl hup
      ((with_reducible refine (heapLess k n cap j q vs (at_ vs j) (at_ vs q) _ hR.out.2.2.2.1 HVL.out hm GJ.out GQ.out).mono ?_); rintro e w1 ⟨rfl, hb1⟩)
      have hR1 : Hid (vs.Perm ws ∧ UpInv leW vs n j ∧ Blk w1 hb #[.slice (some ⟨k, 0, none⟩) n cap] 89 ∧ AccV 70 7 k w1 (.slice (some ⟨k, 0, none⟩) n cap) n (vs.flatMap wcells) ∧ KeptH hb (some k) w w1) :=
        ⟨hR.out.1, hR.out.2.1, hR.out.2.2.1.below hb1 (Nat.le_refl _), hR.out.2.2.2.1.block (hb1.block _ hR.out.2.2.2.1.lt), hR.out.2.2.2.2.trans (KeptH.below hb1) (.inl rfl)⟩
      clear hR hb1 hc hml
      cases hl : ltb (at_ vs j) (at_ vs q)
      · have HL := Lib.hid hl
        clear hl
        go_wp2
        refine bodyPost_end (results_none rfl _ _ _) rfl ?_
        exact ⟨rfl, vs, hR1.out.1, up_end HUP.out (by rw [← HQP.out]; intro h; rw [(ltb_iff _ _).2 h] at HL; exact absurd HL.out (by decide)), hR1.out.2.2.1, hR1.out.2.2.2.1, hR1.out.2.2.2.2⟩
      · have HL := Lib.hid hl
        clear hl
        obtain ⟨hc, _⟩ := one_cell hR1.out.2.2.1
        have hml := meth_swap hb _ _ hc
        go_wp2_with fail
        ((with_reducible refine (heapSwap k n cap q j vs (at_ vs q) (at_ vs j) _ hR1.out.2.2.2.1 HVL.out hm GQ.out GJ.out).mono ?_); rintro e w2 ⟨rfl, ha2, hs2⟩)
        have hR2 : Hid ((swap vs q j).Perm ws ∧ UpInv leW (swap vs q j) n q ∧ Blk w2 hb #[.slice (some ⟨k, 0, none⟩) n cap] 89 ∧ AccV 70 7 k w2 (.slice (some ⟨k, 0, none⟩) n cap) n ((swap vs q j).flatMap wcells) ∧ KeptH hb (some k) w w2) := by
          refine ⟨(swap_perm (by rw [HVL.out]; omega) (by rw [HVL.out]; omega)).trans hR1.out.1, ?_, (hs2.block hb hne).trans hR1.out.2.2.1, ha2, hR1.out.2.2.2.2.trans (KeptH.same hs2) (.inl rfl)⟩
          have e := HQP.out
          have hst := up_step leW_tot leW_tr HUP.out HVL.out.symm hj (by omega) (by rw [← e]; intro h; exact h ((ltb_iff _ _).1 HL.out))
          rw [← e] at hst
          exact hst
        clear hR1 ha2 hs2 hc hml HUP HL GJ GQ HVL HQP
        go_wp2
        go_roundw
        case rel => exact ⟨q, swap vs q j, by omega, rfl, hR2.out⟩
        case measure => simp [intOf]; omega

end Im6
end Go.Proofs.Ytmnhobapjncbfaa
