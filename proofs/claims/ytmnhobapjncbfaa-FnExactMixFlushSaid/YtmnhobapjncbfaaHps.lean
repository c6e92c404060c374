/-
  Contracts of container/heap over the program's heap of waiting packets: Push and Pop.
-/
import Derived.Test.YtmnhobapjncbfaaHpr
namespace Go.Proofs.Ytmnhobapjncbfaa
open Go.RowKit
namespace Im6
open Il Gm Mm Tm Lm Pm Pq Hlp5 Sl Mm6 Hp6

def HPushP (hb k : Nat) (ws : List Wt) (x : Wt) (w : World) (e : Ending) (w' : World) : Prop :=
  e = .returned (.tuple #[]) ∧ ∃ k' vs, HpS hb k' w' vs ∧ vs.Perm (ws ++ [x]) ∧ IsHeap leW vs vs.length ∧ (k' = k ∨ w.heap.size ≤ k') ∧ KeptH hb (some k) w w'
theorem keptH_then {hb k k1 : Nat} {w w1 w2 : World} (h : KeptH hb (some k) w w1) (h2 : KeptH hb (some k1) w1 w2) (hk : k1 = k ∨ w.heap.size ≤ k1) : KeptH hb (some k) w w2 :=
  h.trans h2 (by rcases hk with rfl | hk
                 · exact .inl rfl
                 · exact .inr ⟨k1, rfl, hk⟩)
set_option maxRecDepth 20000 in
set_option maxHeartbeats 1000000 in
theorem hPush (hb k : Nat) (ws : List Wt) (x : Wt) (w : World) (hS : HpS hb k w ws) (hl : ws.length ≤ 1000) (hI : IsHeap leW ws ws.length) :
    Calls Try.prog 72 #[.iface 66 (.pointer (some ⟨hb, 0, none⟩)), .iface 70 (wagg x)] w (HPushP hb k ws x w) := by
  have HS := Lib.hid hS
  have HI := Lib.hid hI
  clear hS hI
  have hmp := meth_push hb
  go_enter Try.func72, Try.ntmps72
  go_wp2_with fail
  ((with_reducible refine (wPush hb k ws x _ HS.out hl).mono ?_); rintro e w1 ⟨rfl, k1, hs1, hk1, hkp1⟩)
  have HK1 := Lib.hid hk1
  have HKP1 := Lib.hid hkp1
  have HS1 := Lib.hid hs1
  clear hk1 hkp1 HS hs1
  obtain ⟨cap, hz, ha, hne⟩ := HS1.out
  have hlen : (ws ++ [x]).length = ws.length + 1 := by simp
  rw [hlen] at hz ha
  have HLEN := Lib.hid hlen
  obtain ⟨hc, _⟩ := one_cell hz
  have hml := meth_len hb _ _ hc
  have HZ := Lib.hid hz
  have HA := Lib.hid ha
  clear hlen hz ha hmp
  go_wp2_with fail
  ((with_reducible refine (heapLen _ _ _ _).mono ?_); rintro e w2 ⟨rfl, rfl⟩)
  clear hml hc
  go_wp2_with fail
  ((with_reducible refine (heapUp hb k1 (ws.length + 1) cap ws.length (ws ++ [x]) _ HZ.out HA.out HLEN.out (by omega) (by omega) hne (up_start HI.out)).mono ?_); rintro e w3 ⟨rfl, vs, hp3, hh3, hz3, ha3, hkp3⟩)
  have HKP3 := Lib.hid hkp3
  have HZ3 := Lib.hid hz3
  have HA3 := Lib.hid ha3
  have HP3 := Lib.hid hp3
  have HH3 := Lib.hid hh3
  clear hkp3 hz3 ha3 hp3 hh3
  go_wp2
  refine bodyPost_end (results_none rfl _ _ _) rfl ?_
  have hvl : vs.length = ws.length + 1 := HP3.out.length_eq.trans HLEN.out
  refine ⟨rfl, k1, vs, ⟨cap, ?_, ?_, hne⟩, HP3.out, ?_, HK1.out, keptH_then HKP1.out HKP3.out HK1.out⟩
  · rw [hvl]; exact HZ3.out
  · rw [hvl]; exact HA3.out
  · rw [hvl]; exact HH3.out
theorem accV_take {e : TypeId} {sz g n m cap : Nat} {w : World} {vs : List Value} (h : AccV e sz g w (.slice (some ⟨g, 0, none⟩) n cap) n vs) (hm : m ≤ n) : AccV e sz g w (.slice (some ⟨g, 0, none⟩) m cap) m (vs.take (m * sz)) := by
  obtain ⟨cap2, e2, ho⟩ := h
  have hms : m * sz ≤ n * sz := Nat.mul_le_mul_right _ hm
  refine ⟨cap, rfl, by rw [List.length_take, ho.1]; omega, ?_⟩
  rcases ho.2 with ⟨q, _⟩ | ⟨g1, cap1, cur, q, hb, hh, h1, h2, h3, h4⟩
  · simp at q
  · simp only [Value.slice.injEq, Option.some.injEq, Addr.mk.injEq, and_true, true_and] at q
    obtain ⟨rfl, rfl⟩ := q
    exact .inr ⟨_, _, cur, rfl, hb, hh, by omega, h2, by omega, by rw [← h4, List.take_take, Nat.min_eq_left hms]⟩
def PopW (hb k m : Nat) (ws : List Wt) (w : World) (e : Ending) (w' : World) : Prop :=
  e = .returned (.iface 70 (wagg (at_ ws m))) ∧ HpS hb k w' (ws.take m) ∧ KeptH hb (some k) w w'
set_option maxRecDepth 20000 in
set_option maxHeartbeats 1000000 in
theorem wPop (hb k m : Nat) (ws : List Wt) (w : World) (hS : HpS hb k w ws) (hl : ws.length = m + 1) (hm : m ≤ 1000) :
    Calls Try.prog 105 #[.pointer (some ⟨hb, 0, none⟩)] w (PopW hb k m ws w) := by
  obtain ⟨cap, hz, ha, hne⟩ := hS
  obtain ⟨hc, hf⟩ := one_cell hz
  rw [hl] at hz ha hc
  have hx := get_at (l := ws) (i := m) (by omega)
  obtain ⟨⟨c0, c1, c2, c3, c4, c5, c6⟩, _, _, _, _, _, _, _⟩ := wt_cells ha hx
  have hf0 := hf 0
  have hblt : hb < w.heap.size := (Array.getElem?_eq_some_iff.1 hz).1
  have hklt := ha.lt
  have hmc : m ≤ cap := by
    obtain ⟨cap2, e2, hr, _⟩ := ha.row
    simp only [Value.slice.injEq, true_and] at e2
    have := hr.2.1
    omega
  have HA := Lib.hid ha
  have HZ := Lib.hid hz
  have HL := Lib.hid hl
  clear hf ha hz hl hx
  unfold PopW wagg
  generalize at_ ws m = x at *
  go_enter Try.func105, Try.ntmps105
  go_wp2
  go_ret
  have hlt : (ws.take m).length = m := by rw [List.length_take, HL.out]; omega
  refine ⟨rfl, ⟨cap, ?_, ?_, hne⟩, ?_⟩
  · rw [hlt]; exact (blk1_set HZ.out).below ((Below.refl _ _).alloc (Nat.le_refl _) _) (Nat.le_refl _)
  · rw [hlt, flat_take wcells_len]
    exact ((accV_take HA.out (by omega)).block (Below.heap_setCell _ _ _ _ (fun e => hne e.symm))).alloc _
  · refine ⟨rfl, rfl, rfl, by simp, fun z hz h1 h2 => ?_⟩
    refine (((Below.refl _ _).alloc (Nat.le_refl _) _ : Below _ (w.setCell ⟨hb, 0, none⟩ (.slice (some ⟨k, 0, none⟩) m cap)) _).block z (by simpa using hz)).trans (Below.heap_setCell _ _ _ _ h1)
def HPopP (hb k m : Nat) (ws : List Wt) (w : World) (e : Ending) (w' : World) : Prop :=
  e = .returned (.iface 70 (wagg (at_ ws 0))) ∧ ∃ vs, HpS hb k w' vs ∧ vs.length = m ∧ (at_ ws 0 :: vs).Perm ws ∧ IsHeap leW vs m ∧ (∀ x ∈ vs, leW (at_ ws 0) x) ∧ KeptH hb (some k) w w'
theorem heapSwap0 (k n cap j : Nat) (ws : List Wt) (x y : Wt) (w : World) (h : AccV 70 7 k w (.slice (some ⟨k, 0, none⟩) n cap) n (ws.flatMap wcells)) (hn : ws.length = n) (hm : n ≤ 100000) (hx : ws[0]? = some x) (hy : ws[j]? = some y) :
    Calls Try.prog 107 #[.slice (some ⟨k, 0, none⟩) n cap, .int .i64 0, .int .i64 j] w
      fun e w' => e = .returned (.tuple #[]) ∧ AccV 70 7 k w' (.slice (some ⟨k, 0, none⟩) n cap) n (((ws.set 0 y).set j x).flatMap wcells) ∧ SameB k w w' := heapSwap k n cap 0 j ws x y w h hn hm hx hy
set_option maxRecDepth 20000 in
set_option maxHeartbeats 1000000 in
theorem hPop (hb k m : Nat) (ws : List Wt) (w : World) (hS : HpS hb k w ws) (hl : ws.length = m + 1) (hm : m ≤ 1000) (hI : IsHeap leW ws (m + 1)) :
    Calls Try.prog 44 #[.iface 66 (.pointer (some ⟨hb, 0, none⟩))] w (HPopP hb k m ws w) := by
  obtain ⟨cap, hz, ha, hne⟩ := hS
  rw [hl] at hz ha
  obtain ⟨hc, _⟩ := one_cell hz
  have hml := meth_len hb _ _ hc
  have hms := meth_swap hb _ _ hc
  have HI := Lib.hid hI
  have HL := Lib.hid hl
  have HZ := Lib.hid hz
  have HA := Lib.hid ha
  have G0 := Lib.hid (get_at (l := ws) (i := 0) (by omega))
  have GM := Lib.hid (get_at (l := ws) (i := m) (by omega))
  clear hI hl hz ha
  go_enter Try.func44, Try.ntmps44
  go_wp2_with fail
  ((with_reducible refine (heapLen _ _ _ _).mono ?_); rintro e w2 ⟨rfl, rfl⟩)
  go_wp2_with fail
  ((with_reducible refine (heapSwap0 k (m + 1) cap m ws (at_ ws 0) (at_ ws m) _ HA.out HL.out (by omega) G0.out GM.out).mono ?_); rintro e w3 ⟨rfl, ha3, hs3⟩)
  have HA3 : Hid (AccV 70 7 k w3 (.slice (some ⟨k, 0, none⟩) (m + 1) cap) (m + 1) ((swap ws 0 m).flatMap wcells)) := ha3
  have HZ3 : Hid (Blk w3 hb #[.slice (some ⟨k, 0, none⟩) (m + 1) cap] 89) := (hs3.block hb hne).trans HZ.out
  have HS3 := Lib.hid (KeptH.same (hb := hb) hs3)
  have HL3 : Hid ((swap ws 0 m).length = m + 1) := (swap_len _ _ _).trans HL.out
  have HD3 := Lib.hid (down_start HI.out HL.out)
  clear ha3 hs3 hc hml hms
  go_wp2_with fail
  ((with_reducible refine (heapDown hb k (m + 1) cap m (swap ws 0 m) _ HZ3.out HA3.out HL3.out (by omega) (by omega) hne HD3.out).mono ?_); rintro e w4 ⟨r4, vs, rfl, hp4, hh4, hb4, hz4, ha4, hk4⟩)
  have hvl : vs.length = m + 1 := hp4.length_eq.trans HL3.out
  obtain ⟨f1, f2, f3, f4⟩ := pop_fact leW_rf leW_tr HI.out HL.out hp4 (hb4 m (Nat.le_refl _)) hh4
  have HS4 : Hid (HpS hb k w4 vs) := ⟨cap, by rw [hvl]; exact hz4, by rw [hvl]; exact ha4, hne⟩
  have HK4 := Lib.hid (HS3.out.trans hk4 (.inl rfl))
  have HF := Lib.hid (And.intro f1 (And.intro f2 (And.intro f3 f4)))
  have HVL := Lib.hid hvl
  have hmp := meth_pop hb
  clear hp4 hh4 hb4 hz4 ha4 hk4 f1 f2 f3 f4 hvl HA3 HZ3 HS3 HL3 HD3
  go_wp2_with fail
  ((with_reducible refine (wPop hb k m vs _ HS4.out HVL.out hm).mono ?_); rintro e w5 ⟨rfl, hs5, hk5⟩)
  rw [HF.out.2.2.2]
  have HS5 := Lib.hid hs5
  have HK5 := Lib.hid (HK4.out.trans hk5 (.inl rfl))
  clear hs5 hk5 hmp
  go_wp2
  go_ret
  exact ⟨rfl, _, HS5.out, by rw [List.length_take, HVL.out]; omega, HF.out.1, HF.out.2.1, HF.out.2.2.1, HK5.out⟩

end Im6
end Go.Proofs.Ytmnhobapjncbfaa
