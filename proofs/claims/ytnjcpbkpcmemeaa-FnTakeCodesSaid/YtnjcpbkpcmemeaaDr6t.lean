/-
  The draw of what MixTake is tried at.
-/
import Derived.Test.YtnjcpbkpcmemeaaDr6
namespace Go.Proofs.Ytnjcpbkpcmemeaa
open Go.RowKit
namespace Rd
open Il Pm Pq Hlp5 Sl Mm6
open Sp6 (three_cells farb3)

theorem results_cell2 {fn : Func} {p q : Tmp} {t u : TypeId} (h : fn.results = #[.cell p t, .cell q u]) (tmps : Array Value) (P : Program) (w : World) :
    (results fn tmps).run P w = ((asAddr (tmps.getD p undef)).run P w).andThen fun a w₁ => ((loadVar t a).run P w₁).andThen fun v w₂ => ((asAddr (tmps.getD q undef)).run P w₂).andThen fun b w₃ => ((loadVar u b).run P w₃).andThen fun v2 w₄ => .ok (.tuple #[v, v2]) w₄ := by
  simp only [results, h]
  simp [Sem.run_bind, Result.andThen]
/-- Only the blocks b and b + 1 may have turned. -/
structure Same2 (b : Nat) (w w' : World) : Prop where
  os : w'.os = w.os
  tape : w'.tape = w.tape
  output : w'.output = w.output
  size : w'.heap.size = w.heap.size
  block : ∀ z, z ≠ b → z ≠ b + 1 → w'.heap[z]? = w.heap[z]?
theorem Same2.refl (b : Nat) (w : World) : Same2 b w w := ⟨rfl, rfl, rfl, rfl, fun _ _ _ => rfl⟩
theorem Same2.set {b : Nat} {w w' : World} (q : Addr) (v : Value) (h : Same2 b w w') (hq : q.block = b ∨ q.block = b + 1) : Same2 b w (w'.setCell q v) :=
  ⟨h.os, h.tape, h.output, by rw [← h.size]; simp [World.setCell], fun z h1 h2 => (Below.heap_setCell _ _ _ _ (by rcases hq with e | e <;> rw [e] <;> assumption)).trans (h.block z h1 h2)⟩
theorem Same2.set0 {b : Nat} {w w' : World} (h : Same2 b w w') (o : Nat) (v : Value) : Same2 b w (w'.setCell ⟨b, o, none⟩ v) := h.set _ v (.inl rfl)
theorem Same2.set1 {b : Nat} {w w' : World} (h : Same2 b w w') (o : Nat) (v : Value) : Same2 b w (w'.setCell ⟨b + 1, o, none⟩ v) := h.set _ v (.inr rfl)
theorem Same2.drew {b : Nat} {w w' : World} (h : Same2 b w w') : Same2 b w w'.drew := ⟨h.os, h.tape, h.output, h.size, h.block⟩
/-- What a law has of a drawn mix and a drawn packet. -/
def TakeHas (w w' : World) (x : Mx) (A : Option Addr) (c : Nat) (B : Option Addr) (d : Nat) (p : Pkt) (A2 : Option Addr) (c2 : Nat) (B2 : Option Addr) (d2 : Nat) : Prop :=
  MixR w.heap.size w'.heap.size w' A x.seen.length c B x.pool.length d x ∧ Ints w.heap.size w'.heap.size w' A2 p.hd.length c2 p.hd ∧ Ints w.heap.size w'.heap.size w' B2 p.bd.length d2 p.bd ∧ ((-1 ≤ x.sec ∧ x.sec ≤ 997) ∧ x.seen.length ≤ 13 ∧ x.pool.length ≤ 5 ∧ (∀ q ∈ x.pool, q.pk.hd.length = 9 ∧ q.pk.bd.length = 6) ∧ p.hd.length ≤ 1000 ∧ p.bd.length ≤ 1000) ∧ Below w.heap.size w w'
def TakeDraw (w : World) (e : Ending) (w' : World) : Prop := ∃ (x : Mx) (A : Option Addr) (c : Nat) (B : Option Addr) (d : Nat) (p : Pkt) (A2 : Option Addr) (c2 : Nat) (B2 : Option Addr) (d2 : Nat), e = .returned (.tuple #[.agg #[.int .i64 x.sec, .slice A x.seen.length c, .slice B x.pool.length d], .agg #[.int .i64 p.el, .slice A2 p.hd.length c2, .int .i64 p.tag, .slice B2 p.bd.length d2]]) ∧ TakeHas w w' x A c B d p A2 c2 B2 d2
/-- A mix in block bv, a packet in block bp; the results' blocks are empty yet. -/
def DtRel (bv bp : Nat) (w wr : World) (x : Mx) (A : Option Addr) (c : Nat) (B : Option Addr) (d : Nat) (p : Pkt) (A2 : Option Addr) (c2 : Nat) (B2 : Option Addr) (d2 : Nat) : Prop :=
  Blk wr w.heap.size #[.int .i64 0, .slice none 0 0, .slice none 0 0] 27 ∧ Blk wr (w.heap.size + 1) #[.int .i64 0, .slice none 0 0, .int .i64 0, .slice none 0 0] 34 ∧ Blk wr bv #[.int .i64 x.sec, .slice A x.seen.length c, .slice B x.pool.length d] 27 ∧ Blk wr bp #[.int .i64 p.el, .slice A2 p.hd.length c2, .int .i64 p.tag, .slice B2 p.bd.length d2] 34 ∧ MixR (w.heap.size + 3) wr.heap.size wr A x.seen.length c B x.pool.length d x ∧
    Ints (bv + 1) wr.heap.size wr A2 p.hd.length c2 p.hd ∧ Ints (bv + 1) wr.heap.size wr B2 p.bd.length d2 p.bd ∧ Below w.heap.size w wr ∧ (w.heap.size + 3 ≤ bv ∧ bv < bp) ∧ ((-1 ≤ x.sec ∧ x.sec ≤ 997) ∧ x.seen.length ≤ 13 ∧ x.pool.length ≤ 5 ∧ (∀ q ∈ x.pool, q.pk.hd.length = 9 ∧ q.pk.bd.length = 6) ∧ p.hd.length ≤ 1000 ∧ p.bd.length ≤ 1000)
section
variable {bv bp : Nat} {w wr w' : World} {x : Mx} {A : Option Addr} {c : Nat} {B : Option Addr} {d : Nat} {p : Pkt} {A2 : Option Addr} {c2 : Nat} {B2 : Option Addr} {d2 : Nat}
theorem DtRel.grown (h : DtRel bv bp w wr x A c B d p A2 c2 B2 d2) (hg : wr.grownBy w' (some (w.heap.size + 2))) : DtRel bv bp w w' x A c B d p A2 c2 B2 d2 := by
  obtain ⟨h1, h2, h3, h4, h5, h6, h7, h8, h9, h10⟩ := h
  have hs := hg.size
  refine ⟨blk_grown h1 hg (by simp), blk_grown h2 hg (by simp), blk_grown h3 hg (by simp; omega), blk_grown h4 hg (by simp; omega), ⟨ints_top' (h5.1.grown hg (fun k e => by simp at e; omega)) (Nat.le_refl _), Pool.top (h5.2.grown hg (fun k e => by simp at e; omega)) (Nat.le_refl _)⟩,
    ints_top' (h6.grown hg (fun k e => by simp at e; omega)) (Nat.le_refl _), ints_top' (h7.grown hg (fun k e => by simp at e; omega)) (Nat.le_refl _), below_g h8 hg (by have := blk_lt h1; omega) (fun k e => by simp at e; omega), h9, h10⟩
theorem DtRel.below (h : DtRel bv bp w wr x A c B d p A2 c2 B2 d2) (hb : Below wr.heap.size wr w') : DtRel bv bp w w' x A c B d p A2 c2 B2 d2 := by
  obtain ⟨h1, h2, h3, h4, h5, h6, h7, h8, h9, h10⟩ := h
  exact ⟨h1.below hb (Nat.le_refl _), h2.below hb (Nat.le_refl _), h3.below hb (Nat.le_refl _), h4.below hb (Nat.le_refl _), (h5.below hb (Nat.le_refl _)).top (Nat.le_refl _), ints_top' (h6.below hb (Nat.le_refl _)) (Nat.le_refl _), ints_top' (h7.below hb (Nat.le_refl _)) (Nat.le_refl _), h8.trans (hb.mono h8.size), h9, h10⟩
theorem DtRel.mixr (h : DtRel bv bp w wr x A c B d p A2 c2 B2 d2) : MixR (w.heap.size + 3) wr.heap.size wr A x.seen.length c B x.pool.length d x := h.2.2.2.2.1
theorem DtRel.hdr (h : DtRel bv bp w wr x A c B d p A2 c2 B2 d2) : Ints (bv + 1) wr.heap.size wr A2 p.hd.length c2 p.hd := h.2.2.2.2.2.1
theorem DtRel.bdy (h : DtRel bv bp w wr x A c B d p A2 c2 B2 d2) : Ints (bv + 1) wr.heap.size wr B2 p.bd.length d2 p.bd := h.2.2.2.2.2.2.1
theorem DtRel.var (h : DtRel bv bp w wr x A c B d p A2 c2 B2 d2) : Blk wr bv #[.int .i64 x.sec, .slice A x.seen.length c, .slice B x.pool.length d] 27 := h.2.2.1
theorem DtRel.pkt (h : DtRel bv bp w wr x A c B d p A2 c2 B2 d2) : Blk wr bp #[.int .i64 p.el, .slice A2 p.hd.length c2, .int .i64 p.tag, .slice B2 p.bd.length d2] 34 := h.2.2.2.1
theorem DtRel.bnd (h : DtRel bv bp w wr x A c B d p A2 c2 B2 d2) : (-1 ≤ x.sec ∧ x.sec ≤ 997) ∧ x.seen.length ≤ 13 ∧ x.pool.length ≤ 5 ∧ (∀ q ∈ x.pool, q.pk.hd.length = 9 ∧ q.pk.bd.length = 6) ∧ p.hd.length ≤ 1000 ∧ p.bd.length ≤ 1000 := h.2.2.2.2.2.2.2.2.2
theorem DtRel.lts (h : DtRel bv bp w wr x A c B d p A2 c2 B2 d2) : w.heap.size + 3 ≤ bv ∧ bv < bp ∧ bp < wr.heap.size := ⟨h.2.2.2.2.2.2.2.2.1.1, h.2.2.2.2.2.2.2.2.1.2, blk_lt h.2.2.2.1⟩
/-- A new mix is stored. -/
theorem DtRel.store {y : Mx} {lo : Nat} {A3 B3 : Option Addr} {c3 d3 : Nat} (h : DtRel bv bp w wr x A c B d p A2 c2 B2 d2) (hm : MixD lo wr A3 c3 B3 d3 y) (hlo : bv < lo) (hy : (-1 ≤ y.sec ∧ y.sec ≤ 997) ∧ y.seen.length ≤ 13 ∧ y.pool.length ≤ 5 ∧ (∀ q ∈ y.pool, q.pk.hd.length = 9 ∧ q.pk.bd.length = 6)) :
    DtRel bv bp w (((wr.setCell ⟨bv, 0, none⟩ (.int .i64 y.sec)).setCell ⟨bv, 1, none⟩ (.slice A3 y.seen.length c3)).setCell ⟨bv, 2, none⟩ (.slice B3 y.pool.length d3)) y A3 c3 B3 d3 p A2 c2 B2 d2 := by
  obtain ⟨h1, h2, h3, h4, h5, h6, h7, h8, h9, h10, h11, h12, h13, h14, h15⟩ := h
  have hb := blk_lt h4
  have hsz : (((wr.setCell ⟨bv, 0, none⟩ (.int .i64 y.sec)).setCell ⟨bv, 1, none⟩ (.slice A3 y.seen.length c3)).setCell ⟨bv, 2, none⟩ (.slice B3 y.pool.length d3)).heap.size = wr.heap.size := by simp [World.setCell]
  have hk : ∀ z, z ≠ bv → (((wr.setCell ⟨bv, 0, none⟩ (.int .i64 y.sec)).setCell ⟨bv, 1, none⟩ (.slice A3 y.seen.length c3)).setCell ⟨bv, 2, none⟩ (.slice B3 y.pool.length d3)).heap[z]? = wr.heap[z]? := fun z hz => farb3 hz _ _ _
  have m1 := (hm.keep (Nat.le_of_eq hsz.symm) (fun z q _ => hk z (by omega))).mix.top (lo2 := w.heap.size + 3) (by omega)
  refine ⟨(hk _ (by omega)).trans h1, (hk _ (by omega)).trans h2, blk3_all h3, (hk _ (by omega)).trans h4, m1, ints_top' (h6.keep (Nat.le_of_eq hsz.symm) (fun z q1 _ _ => hk z (by omega))) (Nat.le_refl _), ints_top' (h7.keep (Nat.le_of_eq hsz.symm) (fun z q1 _ _ => hk z (by omega))) (Nat.le_refl _), ?_, h9, hy.1, hy.2.1, hy.2.2.1, hy.2.2.2, h14, h15⟩
  exact ⟨h8.os, h8.tape, h8.output, by rw [hsz]; exact h8.size, fun i hi => (hk i (by omega)).trans (h8.block i hi)⟩
theorem DtRel.fin (h : DtRel bv bp w wr x A c B d p A2 c2 B2 d2) (hq : Same2 w.heap.size wr w') : TakeHas w w' x A c B d p A2 c2 B2 d2 := by
  obtain ⟨e1, e2, e3, hs, hk⟩ := hq
  obtain ⟨h1, h2, h3, h4, h5, h6, h7, h8, h9, h10⟩ := h
  have k : ∀ z lo, w.heap.size + 3 ≤ lo → lo ≤ z → w'.heap[z]? = wr.heap[z]? := fun z lo q1 q2 => hk z (by omega) (by omega)
  refine ⟨⟨ints_top' (h5.1.keep (Nat.le_of_eq hs.symm) (fun z q _ _ => k z _ (Nat.le_refl _) q)) (by omega), Pool.top (h5.2.keep (Nat.le_of_eq hs.symm) (fun z q _ _ => k z _ (Nat.le_refl _) q)) (by omega)⟩, ints_top' (h6.keep (Nat.le_of_eq hs.symm) (fun z q _ _ => k z (bv + 1) (by omega) q)) (by omega), ints_top' (h7.keep (Nat.le_of_eq hs.symm) (fun z q _ _ => k z (bv + 1) (by omega) q)) (by omega), h10, ?_⟩
  exact ⟨e1.trans h8.os, e2.trans h8.tape, e3.trans h8.output, by rw [hs]; exact h8.size, fun i hi => (hk i (by omega) (by omega)).trans (h8.block i hi)⟩
end
theorem take_bnd {x : Mx} {p : Pkt} (h : takeC x p = 0) (h1 : -1 ≤ x.sec ∧ x.sec ≤ 997) (hp : ∀ q ∈ x.pool, q.pk.hd.length = 9 ∧ q.pk.bd.length = 6) :
    (-1 ≤ (takeM x p).sec ∧ (takeM x p).sec ≤ 997) ∧ (takeM x p).seen.length ≤ 13 ∧ (takeM x p).pool.length ≤ 5 ∧ (∀ q ∈ (takeM x p).pool, q.pk.hd.length = 9 ∧ q.pk.bd.length = 6) := by
  obtain ⟨t1, t2, t3, t4⟩ := takeC_zero h
  rw [takeM_yes h]
  refine ⟨h1, by simp; omega, by simp; omega, fun q hq => ?_⟩
  rcases List.mem_append.1 hq with hq | hq
  · exact hp q hq
  · rw [List.mem_singleton] at hq
    subst hq
    obtain ⟨q1, q2, q3⟩ := pldOk_iff.1 (peel_ok t1)
    obtain ⟨r1, r2, r3, r4, r5, r6⟩ := pktOk_iff.1 q3
    exact ⟨r3, r6⟩

set_option maxHeartbeats 4000000 in
set_option maxRecDepth 20000 in
theorem DrawMixTake (A0 : Option Addr) (n0 c0 : Nat) (w : World) (h : CodeIs w A0 n0 c0) :
    Calls Try.prog 14 #[.slice A0 n0 c0] w (TakeDraw w) := by
  obtain ⟨hz0, hz1, hsz, hal⟩ := Sp6.two_blocks w #[.int .i64 0, .slice none 0 0, .slice none 0 0] #[.int .i64 0, .slice none 0 0, .int .i64 0, .slice none 0 0] 27 34
  have HC : Hid (CodeIs ((w.alloc (.cells #[.int .i64 0, .slice none 0 0, .slice none 0 0] 27)).alloc (.cells #[.int .i64 0, .slice none 0 0, .int .i64 0, .slice none 0 0] 34)) A0 n0 c0) := by
    refine ⟨h.1, h.2.1, fun hn => ?_⟩
    obtain ⟨b, off, e, hb, hc⟩ := h.2.2 hn
    refine ⟨b, off, e, Nat.lt_of_lt_of_le hb hal.size, fun j hj => ?_⟩
    obtain ⟨u, hu, hcell⟩ := hc j hj
    exact ⟨u, hu, (hal.cell (p := ⟨b, off + j, none⟩) hb).trans hcell⟩
  have Z0 := Lib.hid hz0
  have Z1 := Lib.hid hz1
  have B0 := Lib.hid hal
  have HSZ := Lib.hid hsz
  clear h hal hz0 hz1 hsz
  go_enter Try.func14, Try.ntmps14
  go_wp2_with fail
  ((with_reducible refine (l6Open _ _ _ _ HC.out).mono ?_); rintro e w1 ⟨rfl, r1, b1, s1⟩)
  rw [HSZ.out] at r1 b1 s1 ⊢
  replace Z0 := Lib.hid (Z0.out.below b1 (by rw [HSZ.out]; exact Nat.le_refl _))
  replace Z1 := Lib.hid (Z1.out.below b1 (by rw [HSZ.out]; exact Nat.le_refl _))
  replace B0 := Lib.hid (B0.out.trans (b1.mono (by omega)))
  have R1 := Lib.hid r1
  have hs1 : w.heap.size + 1 + 1 < w1.heap.size := by omega
  clear r1 b1 s1 HSZ HC
  go_wp2_with fail
  ((with_reducible refine (l91Mix _ _ _ R1.out (by omega)).mono ?_); rintro e w2 ⟨x, A, c, B, d, rfl, mx, hsec, hsn, hpn, hpl, r2, g2⟩)
  replace Z0 := Lib.hid (blk_grown Z0.out g2 (by simp; omega))
  replace Z1 := Lib.hid (blk_grown Z1.out g2 (by simp))
  replace B0 := Lib.hid (below_g B0.out g2 (by omega) (fun k e => by simp at e; omega))
  have hs2 := g2.size
  have hal : Below w2.heap.size w2 (w2.alloc (.cells #[.int .i64 x.sec, .slice A x.seen.length c, .slice B x.pool.length d] 27)) := (Below.refl _ _).alloc (Nat.le_refl _) _
  have MX2 : Hid (MixR (w.heap.size + 3) w2.heap.size (w2.alloc (.cells #[.int .i64 x.sec, .slice A x.seen.length c, .slice B x.pool.length d] 27)) A x.seen.length c B x.pool.length d x) := (mx.top (lo2 := w.heap.size + 3) (by omega)).below hal (Nat.le_refl _)
  have Z2 : Hid (Blk (w2.alloc (.cells #[.int .i64 x.sec, .slice A x.seen.length c, .slice B x.pool.length d] 27)) w2.heap.size #[.int .i64 x.sec, .slice A x.seen.length c, .slice B x.pool.length d] 27) := heap_alloc_new _ _
  replace Z0 := Lib.hid (Z0.out.below hal (Nat.le_refl _))
  replace Z1 := Lib.hid (Z1.out.below hal (Nat.le_refl _))
  replace B0 := Lib.hid (B0.out.trans (hal.mono (by omega)))
  have R2 := Lib.hid (r2.below hal (by omega))
  have HPL := Lib.hid hpl
  have hs3 : w2.heap.size < (w2.alloc (.cells #[.int .i64 x.sec, .slice A x.seen.length c, .slice B x.pool.length d] 27)).heap.size := by simp
  clear hal mx R1 r2 g2 hpl
  go_wp2_with fail
  all_goals
    generalize (w2.alloc (.cells #[.int .i64 x.sec, .slice A x.seen.length c, .slice B x.pool.length d] 27)) = w3 at *
    have hbv : w.heap.size + 3 ≤ w2.heap.size := by omega
    generalize w2.heap.size = bv at *
    ((with_reducible refine (l91Packet _ _ _ _ R2.out (by omega)).mono ?_); rintro e w4 ⟨p0, A4, c4, B4, d4, rfl, i1, i2, hn4, hm4, r4, g4⟩)
    have hs4 := g4.size
    have I1 := Lib.hid i1
    have I2 := Lib.hid i2
    replace Z0 := Lib.hid (blk_grown Z0.out g4 (by simp; omega))
    replace Z1 := Lib.hid (blk_grown Z1.out g4 (by simp))
    replace Z2 := Lib.hid (blk_grown Z2.out g4 (by simp; omega))
    replace B0 := Lib.hid (below_g B0.out g4 (by omega) (fun k e => by simp at e; omega))
    replace MX2 : Hid (MixR (w.heap.size + 3) bv w4 A x.seen.length c B x.pool.length d x) := ⟨MX2.out.1.grown g4 (fun k e => by simp at e; omega), MX2.out.2.grown g4 (fun k e => by simp at e; omega)⟩
    have R4 := Lib.hid r4
    clear i1 i2 r4 g4 R2
    go_wp2_with fail
    ((with_reducible refine (l91Spoilt _ _ p0 _ _ _ _ _ _ _ _ _ R4.out (by omega) I1.out I2.out hn4 hm4).mono ?_); rintro e w5 ⟨p, A2, c2, B2, d2, rfl, i1, i2, hn5, hm5, r5, g5⟩)
    have hs5 := g5.size
    replace Z0 := Lib.hid (blk_grown Z0.out g5 (by simp; omega))
    replace Z1 := Lib.hid (blk_grown Z1.out g5 (by simp))
    replace Z2 := Lib.hid (blk_grown Z2.out g5 (by simp; omega))
    replace B0 := Lib.hid (below_g B0.out g5 (by omega) (fun k e => by simp at e; omega))
    replace MX2 : Hid (MixR (w.heap.size + 3) bv w5 A x.seen.length c B x.pool.length d x) := ⟨MX2.out.1.grown g5 (fun k e => by simp at e; omega), MX2.out.2.grown g5 (fun k e => by simp at e; omega)⟩
    have hal : Below w5.heap.size w5 (w5.alloc (.cells #[.int .i64 p.el, .slice A2 p.hd.length c2, .int .i64 p.tag, .slice B2 p.bd.length d2] 34)) := (Below.refl _ _).alloc (Nat.le_refl _) _
    have hs6 : w5.heap.size < (w5.alloc (.cells #[.int .i64 p.el, .slice A2 p.hd.length c2, .int .i64 p.tag, .slice B2 p.bd.length d2] 34)).heap.size := by simp
    have HD : Hid (DtRel bv w5.heap.size w (w5.alloc (.cells #[.int .i64 p.el, .slice A2 p.hd.length c2, .int .i64 p.tag, .slice B2 p.bd.length d2] 34)) x A c B d p A2 c2 B2 d2) :=
      ⟨Z0.out.below hal (Nat.le_refl _), Z1.out.below hal (Nat.le_refl _), Z2.out.below hal (Nat.le_refl _), heap_alloc_new _ _, ((MX2.out.top (Nat.le_refl _)).below hal (Nat.le_refl _)).top (Nat.le_refl _), ints_top' (i1.below hal (Nat.le_refl _)) (by omega), ints_top' (i2.below hal (Nat.le_refl _)) (by omega), B0.out.trans (hal.mono (by omega)), ⟨hbv, by omega⟩, hsec, hsn, hpn, HPL.out, hn5, hm5⟩
    have R6 := Lib.hid (r5.below hal (by omega))
    clear hal i1 i2 r5 g5 Z0 Z1 Z2 B0 MX2 R4 I1 I2 hs6 hs5 hs4 hs3 hs2 hs1 hsec hsn hpn HPL hn4 hm4 hn5 hm5 hbv
    go_wp2_with fail
    generalize (w5.alloc (.cells #[.int .i64 p.el, .slice A2 p.hd.length c2, .int .i64 p.tag, .slice B2 p.bd.length d2] 34)) = w6 at *
    generalize w5.heap.size = bp at *
    ((with_reducible refine (pick _ _ _ _ R6.out (by omega) (by decide) (by decide)).mono ?_); rintro e w7 ⟨v, rfl, hv0, hv1, r7, g7, s7⟩)
    replace HD := Lib.hid (HD.out.grown g7)
    clear r7 g7 s7 R6
    by_cases hv : v = 0
    case neg =>
      have hv' : (v == 0) = false := by simpa using hv
      clear hv
      have hlt := HD.out.lts
      obtain ⟨hlt1, hlt2, hlt3⟩ := hlt
      obtain ⟨a0, a1, a2, af⟩ := three_cells HD.out.var
      obtain ⟨b0, b1, b2, b3, bf⟩ := four_cells HD.out.pkt
      obtain ⟨z0, z1, z2, zf⟩ := three_cells HD.out.1
      obtain ⟨y0, y1, y2, y3, yf⟩ := four_cells HD.out.2.1
      go_wp2_with fail
      go_region
      all_goals
        go_wp2
        refine bodyPost_ret (v := .tuple #[.agg #[.int .i64 x.sec, .slice A x.seen.length c, .slice B x.pool.length d], .agg #[.int .i64 p.el, .slice A2 p.hd.length c2, .int .i64 p.tag, .slice B2 p.bd.length d2]]) ?_ rfl ?_
        · rw [results_cell2 rfl]
          go_simp
        · refine ⟨x, A, c, B, d, p, A2, c2, B2, d2, rfl, HD.out.fin ?_⟩
          repeat (first | with_reducible exact Same2.refl _ _ | with_reducible refine Same2.set0 ?_ _ _ | with_reducible refine Same2.set1 ?_ _ _ | with_reducible refine Same2.drew ?_ | fail)
    subst hv
    obtain ⟨a0, a1, a2, af⟩ := three_cells HD.out.var
    by_cases hg : Gm.inG x.sec = true
    case neg =>
      have hq : x.sec < 1 ∨ 996 < x.sec := by rw [Gm.inG_iff] at hg; omega
      go_wp2_with fail
      ((with_reducible refine (Grp.l1Is_no x.sec _ hq).mono ?_); rintro e w8 ⟨rfl, rfl⟩)
      clear a0 a1 a2 af
      have hlt := HD.out.lts
      obtain ⟨hlt1, hlt2, hlt3⟩ := hlt
      obtain ⟨a0, a1, a2, af⟩ := three_cells HD.out.var
      obtain ⟨b0, b1, b2, b3, bf⟩ := four_cells HD.out.pkt
      obtain ⟨z0, z1, z2, zf⟩ := three_cells HD.out.1
      obtain ⟨y0, y1, y2, y3, yf⟩ := four_cells HD.out.2.1
      go_wp2_with fail
      go_region
      all_goals
        go_wp2
        refine bodyPost_ret (v := .tuple #[.agg #[.int .i64 x.sec, .slice A x.seen.length c, .slice B x.pool.length d], .agg #[.int .i64 p.el, .slice A2 p.hd.length c2, .int .i64 p.tag, .slice B2 p.bd.length d2]]) ?_ rfl ?_
        · rw [results_cell2 rfl]
          go_simp
        · refine ⟨x, A, c, B, d, p, A2, c2, B2, d2, rfl, HD.out.fin ?_⟩
          repeat (first | with_reducible exact Same2.refl _ _ | with_reducible refine Same2.set0 ?_ _ _ | with_reducible refine Same2.set1 ?_ _ _ | with_reducible refine Same2.drew ?_ | fail)
    obtain ⟨hq1, hq2⟩ := Gm.inG_iff.1 hg
    have HG := Lib.hid hg
    have HQ := Lib.hid (And.intro hq1 hq2)
    clear hg hq1 hq2
    go_wp2_with fail
    ((with_reducible refine (Grp.l1Is_yes x.sec _ HQ.out.1 HQ.out.2).mono ?_); rintro e w8 ⟨rfl, rfl⟩)
    clear a0 a1 a2 af
    obtain ⟨b0, b1, b2, b3, bf⟩ := four_cells HD.out.pkt
    go_wp2_with fail
    ((with_reducible refine (Sp5.PacketValid _ _ _ _ _ _ _ _ _ _ p.el p.tag p.hd p.bd _ HD.out.hdr HD.out.bdy).mono ?_); rintro e w9 ⟨rfl, hb9⟩)
    replace HD := Lib.hid (HD.out.below hb9)
    clear hb9 b0 b1 b2 b3 bf
    cases hpk : pktOk ⟨p.el, p.hd, p.tag, p.bd⟩
    case false =>
      clear hpk
      have hlt := HD.out.lts
      obtain ⟨hlt1, hlt2, hlt3⟩ := hlt
      obtain ⟨a0, a1, a2, af⟩ := three_cells HD.out.var
      obtain ⟨b0, b1, b2, b3, bf⟩ := four_cells HD.out.pkt
      obtain ⟨z0, z1, z2, zf⟩ := three_cells HD.out.1
      obtain ⟨y0, y1, y2, y3, yf⟩ := four_cells HD.out.2.1
      go_wp2_with fail
      go_region
      all_goals
        go_wp2
        refine bodyPost_ret (v := .tuple #[.agg #[.int .i64 x.sec, .slice A x.seen.length c, .slice B x.pool.length d], .agg #[.int .i64 p.el, .slice A2 p.hd.length c2, .int .i64 p.tag, .slice B2 p.bd.length d2]]) ?_ rfl ?_
        · rw [results_cell2 rfl]
          go_simp
        · refine ⟨x, A, c, B, d, p, A2, c2, B2, d2, rfl, HD.out.fin ?_⟩
          repeat (first | with_reducible exact Same2.refl _ _ | with_reducible refine Same2.set0 ?_ _ _ | with_reducible refine Same2.set1 ?_ _ _ | with_reducible refine Same2.drew ?_ | fail)
    have HPK : Hid (pktOk p = true) := hpk
    clear hpk
    obtain ⟨q1, q2, q3, q4, q5, q6⟩ := HD.out.bnd
    have HH : Hid (∀ p ∈ x.pool, p.pk.hd.length ≤ 1000 ∧ p.pk.bd.length ≤ 1000) := fun p hp => by have := q4 p hp; omega
    have HQ4 := Lib.hid q4
    clear q4
    obtain ⟨a0, a1, a2, af⟩ := three_cells HD.out.var
    obtain ⟨b0, b1, b2, b3, bf⟩ := four_cells HD.out.pkt
    go_wp2_with fail
    ((with_reducible refine (Sp6.l11TakeS x p _ _ _ _ _ _ _ _ _ _ _ _ _ _ _ _ _ HD.out.mixr HD.out.hdr HD.out.bdy (by omega) (by omega) HH.out HG.out HPK.out).mono ?_); rintro e w10 ⟨A3, c3, B3, d3, rfl, hm10, hb10⟩)
    have hl10 := HD.out.lts
    obtain ⟨hl1, hl2, hl3⟩ := hl10
    replace HD := Lib.hid (HD.out.below hb10)
    have hb11 : Below w10.heap.size w10 (w10.alloc (.cells #[.int .i64 (takeM x p).sec, .slice A3 (takeM x p).seen.length c3, .slice B3 (takeM x p).pool.length d3] 27)) := (Below.refl _ _).alloc (Nat.le_refl _) _
    replace HD := Lib.hid (HD.out.below hb11)
    have HM := Lib.hid (hm10.below hb11 (Nat.le_refl _))
    have Z7 : Hid (Blk (w10.alloc (.cells #[.int .i64 (takeM x p).sec, .slice A3 (takeM x p).seen.length c3, .slice B3 (takeM x p).pool.length d3] 27)) w10.heap.size #[.int .i64 (takeM x p).sec, .slice A3 (takeM x p).seen.length c3, .slice B3 (takeM x p).pool.length d3] 27) := heap_alloc_new _ _
    have hz10 := hb10.size
    clear a0 a1 a2 af b0 b1 b2 b3 bf hb10 hb11 hm10
    by_cases hc0 : takeC x p = 0
    case neg =>
      have hc1 : (takeC x p == 0) = false := by simpa using hc0
      clear hc0 HM
      go_upto_region 8 with (fail)
      generalize (w10.alloc (.cells #[.int .i64 (takeM x p).sec, .slice A3 (takeM x p).seen.length c3, .slice B3 (takeM x p).pool.length d3] 27)) = w11 at *
      have hlt := HD.out.lts
      obtain ⟨hlt1, hlt2, hlt3⟩ := hlt
      obtain ⟨a0, a1, a2, af⟩ := three_cells HD.out.var
      obtain ⟨b0, b1, b2, b3, bf⟩ := four_cells HD.out.pkt
      obtain ⟨z0, z1, z2, zf⟩ := three_cells HD.out.1
      obtain ⟨y0, y1, y2, y3, yf⟩ := four_cells HD.out.2.1
      go_region
      all_goals
        go_wp2
        refine bodyPost_ret (v := .tuple #[.agg #[.int .i64 x.sec, .slice A x.seen.length c, .slice B x.pool.length d], .agg #[.int .i64 p.el, .slice A2 p.hd.length c2, .int .i64 p.tag, .slice B2 p.bd.length d2]]) ?_ rfl ?_
        · rw [results_cell2 rfl]
          go_simp
        · refine ⟨x, A, c, B, d, p, A2, c2, B2, d2, rfl, HD.out.fin ?_⟩
          repeat (first | with_reducible exact Same2.refl _ _ | with_reducible refine Same2.set0 ?_ _ _ | with_reducible refine Same2.set1 ?_ _ _ | with_reducible refine Same2.drew ?_ | fail)
    have HBN := Lib.hid (take_bnd hc0 q1 HQ4.out)
    have hc1 : (takeC x p == 0) = true := by simpa using hc0
    have hc2 : takeC x p = 0 := hc0
    clear hc0
    generalize takeM x p = y at *
    have HS := Lib.hid (HD.out.store HM.out (by omega) HBN.out)
    obtain ⟨a0, a1, a2, af⟩ := three_cells HD.out.var
    obtain ⟨u0, u1, u2, uf⟩ := three_cells Z7.out
    have hne : bv ≠ w10.heap.size := by omega
    go_upto_region 8 with (fail)
    clear a0 a1 a2 af u0 u1 u2 uf Z7 HD HM
    generalize ((((w10.alloc (.cells #[.int .i64 y.sec, .slice A3 y.seen.length c3, .slice B3 y.pool.length d3] 27)).setCell ⟨bv, 0, none⟩ (.int .i64 y.sec)).setCell ⟨bv, 1, none⟩ (.slice A3 y.seen.length c3)).setCell ⟨bv, 2, none⟩ (.slice B3 y.pool.length d3)) = w11 at *
    have HD := HS
    have hlt := HD.out.lts
    obtain ⟨hlt1, hlt2, hlt3⟩ := hlt
    obtain ⟨a0, a1, a2, af⟩ := three_cells HD.out.var
    obtain ⟨b0, b1, b2, b3, bf⟩ := four_cells HD.out.pkt
    obtain ⟨z0, z1, z2, zf⟩ := three_cells HD.out.1
    obtain ⟨y0, y1, y2, y3, yf⟩ := four_cells HD.out.2.1
    go_region
    all_goals
      go_wp2
      refine bodyPost_ret (v := .tuple #[.agg #[.int .i64 y.sec, .slice A3 y.seen.length c3, .slice B3 y.pool.length d3], .agg #[.int .i64 p.el, .slice A2 p.hd.length c2, .int .i64 p.tag, .slice B2 p.bd.length d2]]) ?_ rfl ?_
      · rw [results_cell2 rfl]
        go_simp
      · refine ⟨y, A3, c3, B3, d3, p, A2, c2, B2, d2, rfl, HD.out.fin ?_⟩
        repeat (first | with_reducible exact Same2.refl _ _ | with_reducible refine Same2.set0 ?_ _ _ | with_reducible refine Same2.set1 ?_ _ _ | with_reducible refine Same2.drew ?_ | fail)

end Rd
end Go.Proofs.Ytnjcpbkpcmemeaa
