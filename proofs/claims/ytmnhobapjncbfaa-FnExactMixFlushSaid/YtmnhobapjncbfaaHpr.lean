/-
  Contracts of container/heap over the program's heap of waiting packets: pushing and popping.
-/
import Derived.Test.YtmnhobapjncbfaaHpq
import Derived.Deep.RegionLaw
namespace Go.Proofs.Ytmnhobapjncbfaa
open Go.RowKit
namespace Im6
open Il Gm Mm Tm Lm Pm Pq Hlp5 Sl Mm6 Hp6

/-- A heap with room of its own: its pointer's block, the block of its row. -/
def HpS (hb k : Nat) (w : World) (ws : List Wt) : Prop := ∃ cap, Blk w hb #[.slice (some ⟨k, 0, none⟩) ws.length cap] 89 ∧ AccV 70 7 k w (.slice (some ⟨k, 0, none⟩) ws.length cap) ws.length (ws.flatMap wcells) ∧ hb ≠ k
theorem HpS.below {hb k : Nat} {w w' : World} {ws : List Wt} (h : HpS hb k w ws) (hB : Below w.heap.size w w') : HpS hb k w' ws := by
  obtain ⟨cap, h1, h2, h3⟩ := h
  exact ⟨cap, h1.below hB (Nat.le_refl _), h2.block (hB.block _ h2.lt), h3⟩
theorem HpS.lt {hb k : Nat} {w : World} {ws : List Wt} (h : HpS hb k w ws) : hb < w.heap.size ∧ k < w.heap.size := by
  obtain ⟨cap, h1, h2, h3⟩ := h
  exact ⟨(Array.getElem?_eq_some_iff.1 h1).1, h2.lt⟩
theorem blk1_set {w : World} {b : Nat} {v0 v : Value} {t : TypeId} (h : Blk w b #[v0] t) : Blk (w.setCell ⟨b, 0, none⟩ v) b #[v] t := by
  unfold Blk at h ⊢
  simp [World.setCell, Array.getElem?_modify, h]
def wagg (x : Wt) : Value := .agg #[.int .i64 x.s.p.kind, .int .i64 x.s.p.next, .int .i64 x.s.p.pk.el, .slice x.s.A x.s.p.pk.hd.length x.s.c, .int .i64 x.s.p.pk.tag, .slice x.s.B x.s.p.pk.bd.length x.s.d, .int .i64 x.k]
theorem assertWt (v : Value) (w : World) : (Instr.typeAssert (.iface 70 v) 20 70 false).run Try.prog w = .ok v w := by kernel_rfl
def PushP (hb k : Nat) (ws : List Wt) (x : Wt) (w : World) (e : Ending) (w' : World) : Prop :=
  e = .returned (.tuple #[]) ∧ ∃ k', HpS hb k' w' (ws ++ [x]) ∧ (k' = k ∨ w.heap.size ≤ k') ∧ KeptH hb (some k) w w'
set_option maxRecDepth 20000 in
set_option maxHeartbeats 1000000 in
theorem wPush (hb k : Nat) (ws : List Wt) (x : Wt) (w : World) (hS : HpS hb k w ws) (hl : ws.length ≤ 1000) :
    Calls Try.prog 106 #[.pointer (some ⟨hb, 0, none⟩), .iface 70 (wagg x)] w (PushP hb k ws x w) := by
  obtain ⟨cap, hz, ha, hne⟩ := hS
  obtain ⟨hc, hf⟩ := one_cell hz
  have hblt : hb < w.heap.size := (Array.getElem?_eq_some_iff.1 hz).1
  have hklt := ha.lt
  have HD : Hid (Dest 70 7 (some k) (w.alloc (.cells #[.int .i64 x.s.p.kind, .int .i64 x.s.p.next, .int .i64 x.s.p.pk.el, .slice x.s.A x.s.p.pk.hd.length x.s.c, .int .i64 x.s.p.pk.tag, .slice x.s.B x.s.p.pk.bd.length x.s.d, .int .i64 x.k] 70)).drew (.slice (some ⟨k, 0, none⟩) ws.length cap) ws.length (ws.flatMap wcells)) := .inr ⟨k, rfl, accV_drew (ha.alloc _)⟩
  have HRW : Hid (Row w.heap.size (w.heap.size + 1) (w.alloc (.cells #[.int .i64 x.s.p.kind, .int .i64 x.s.p.next, .int .i64 x.s.p.pk.el, .slice x.s.A x.s.p.pk.hd.length x.s.c, .int .i64 x.s.p.pk.tag, .slice x.s.B x.s.p.pk.bd.length x.s.d, .int .i64 x.k] 70)).drew (some ⟨w.heap.size, 0, none⟩) 1 1 7 (wcells x)) := row_lit w 70 (wcells x) rfl
  have HAL : Hid (Below w.heap.size w (w.alloc (.cells #[.int .i64 x.s.p.kind, .int .i64 x.s.p.next, .int .i64 x.s.p.pk.el, .slice x.s.A x.s.p.pk.hd.length x.s.c, .int .i64 x.s.p.pk.tag, .slice x.s.B x.s.p.pk.bd.length x.s.d, .int .i64 x.k] 70)).drew) := below_drew2 ((Below.refl _ _).alloc (Nat.le_refl _) _)
  have hzw : Blk (w.alloc (.cells #[.int .i64 x.s.p.kind, .int .i64 x.s.p.next, .int .i64 x.s.p.pk.el, .slice x.s.A x.s.p.pk.hd.length x.s.c, .int .i64 x.s.p.pk.tag, .slice x.s.B x.s.p.pk.bd.length x.s.d, .int .i64 x.k] 70)).drew hb #[.slice (some ⟨k, 0, none⟩) ws.length cap] 89 := hz.below HAL.out (Nat.le_refl _)
  have HZW := Lib.hid hzw
  have HA := Lib.hid ha
  clear hz ha hf hzw
  have hta := assertWt
  unfold wagg
  go_enter Try.func106, Try.ntmps106
  go_wp2_with fail
  go_region_law (first | (refine step_appD elWt (some k) _ _ _ _ HD.out _ _ _ _ _ _ HRW.out (wcells_one x) (by omega) (.tmp 7) (.tmp 10) rfl rfl (by go_simp) (by go_simp) ?_; intro g1 v1 w1 hd1 hg1 hgr1; have hz1 : Blk w1 hb #[.slice (some ⟨k, 0, none⟩) ws.length cap] 89 := (hgr1.block hb (Array.getElem?_eq_some_iff.1 HZW.out).1 (fun e => hne (by simpa using e))).trans HZW.out; obtain ⟨hc1, hf1⟩ := one_cell hz1; have hf10 := hf1 0; clear hf1; obtain ⟨A1, c1, rfl, hnc, hmc, hk1⟩ := dest_form hd1) | fail)
  all_goals
    obtain ⟨k1, rfl, rfl, ha1⟩ := hk1 (by omega)
    have hk1b : k1 = k ∨ w.heap.size ≤ k1 := by
      rcases hg1 with e | ⟨q, e, hq⟩
      · exact .inl (by simpa using e)
      · have : k1 = q := by simpa using e
        have := HAL.out.size
        exact .inr (by omega)
    have hne1 : hb ≠ k1 := by rcases hk1b with rfl | h <;> omega
    refine bodyPost_end (results_none rfl _ _ _) rfl ?_
    have hlen : (ws ++ [x]).length = ws.length + 1 := by simp
    have hfl : (ws ++ [x]).flatMap wcells = ws.flatMap wcells ++ wcells x := by simp
    refine ⟨rfl, k1, ⟨c1, ?_, ?_, hne1⟩, hk1b, ?_⟩
    · rw [hlen]; exact blk1_set hz1
    · rw [hlen, hfl]; exact ha1.block (Below.heap_setCell _ _ _ _ (fun e => hne1 e.symm))
    · refine ⟨hgr1.os.trans HAL.out.os, hgr1.tape.trans HAL.out.tape, hgr1.output.trans HAL.out.output, ?_, fun z hz h1 h2 => ?_⟩
      · have := hgr1.size; have := HAL.out.size; simp only [World.size_setCell]; omega
      · refine (Below.heap_setCell _ _ _ _ h1).trans ((hgr1.block z (Nat.lt_of_lt_of_le hz HAL.out.size) (fun e => h2 e.symm)).trans (HAL.out.block z hz))

end Im6
end Go.Proofs.Ytmnhobapjncbfaa
