/-
  The exact laws of chapter 11 on a mix that takes a packet, both of which came in, by the contracts of the functions that they call: each returns true and writes nothing that was there.
-/
import Derived.Test.YtnjcpbkpcmemeacSp6c
import Derived.Test.YtnjcpbkpcmemeacIm6c
import Derived.Test.YtnjcpbkpcmemeacHlpA
import Derived.Deep.RegionLaw
import Derived.Deep.RegionHeld3
import Derived.Deep.DeepCutAuto
import Derived.Test.YtnjcpbkpcmemeacHlp6
namespace Go.Proofs.Ytnjcpbkpcmemeac
open Go.RowKit
namespace Law6w
open Gm Mm Tm Lm Pm Po Pq Il Hlp5 Hlp6 Hlp7 Hlp8 Hlp9 HlpA LawB Sl Mm6 Sp6

theorem blk_ltY {w : World} {b : Nat} {cs : Array Value} {t : TypeId} (h : Blk w b cs t) : b < w.heap.size := (Array.getElem?_eq_some_iff.1 h).1
theorem drew_blY {K : Nat} {w w' : World} (h : Below K w w') : Below K w w'.drew := ⟨h.os, h.tape, h.output, h.size, h.block⟩
theorem total_mem {ps : List Pld} {p : Pld} (h : p ∈ ps) : p.pk.hd.length + p.pk.bd.length + 4 * ps.length ≤ total ps := by
  induction ps with
  | nil => simp at h
  | cons q ps ih =>
    have e : total (q :: ps) = weight q + total ps := by simp [total]
    rw [e, List.length_cons]
    have hg := total_ge ps
    rcases List.mem_cons.1 h with rfl | h
    · unfold weight; omega
    · have := ih h
      unfold weight; omega
theorem fits_b {x : Mx} (h : Fits x 1048576) : x.seen.length ≤ 1048576 ∧ x.pool.length ≤ 1048576 ∧ (∀ p ∈ x.pool, p.pk.hd.length ≤ 1048576 ∧ p.pk.bd.length ≤ 1048576) ∧ totalX x ≤ 4200000 := by
  unfold Fits at h
  have hg := total_ge x.pool
  refine ⟨by omega, by omega, fun p hp => ?_, by unfold totalX; omega⟩
  have := total_mem hp
  omega

theorem peel_lenW (x : Int) (p : Pkt) : (peelF x p).pk.hd.length ≤ 9 ∧ (peelF x p).pk.bd.length ≤ 6 := by
  cases h : peelOk x p
  · rw [peelF_no h]
    exact ⟨Nat.zero_le _, Nat.zero_le _⟩
  · obtain ⟨_, _, h3, _, _, h6⟩ := pktOk_iff.1 (peel_valid h).1
    omega
theorem take_len (x : Mx) (p : Pkt) : totalX (mtakeM x p) ≤ totalX x + 30 := by
  unfold mtakeM
  cases mixOk x && pktOk p
  · simp [totalX, Mx.zero, total]
  · by_cases h : takeC x p = 0
    · have := peel_lenW x.sec p
      rw [cond_true, takeM_yes h]
      simp [totalX, total, weight]
      omega
    · rw [cond_true, takeM_no h]
      omega
theorem mtake_s (x y : Mx) (p : Pkt) (cd : Int) (A B A2 B2 : Option Addr) (c d c2 d2 lo hi l1 h1 l2 h2 : Nat) (w : World) (h : mtakeM x p = y ∧ mtakeC x p = cd) (hx : MixR lo hi w A x.seen.length c B x.pool.length d x) (i1 : Ints l1 h1 w A2 p.hd.length c2 p.hd) (i2 : Ints l2 h2 w B2 p.bd.length d2 p.bd) :
    Calls Try.prog 21 #[.agg #[.int .i64 x.sec, .slice A x.seen.length c, .slice B x.pool.length d], .agg #[.int .i64 p.el, .slice A2 p.hd.length c2, .int .i64 p.tag, .slice B2 p.bd.length d2]] w (MixB y (.int .i64 cd) w) := by
  obtain ⟨rfl, rfl⟩ := h
  exact Sp6.MixTake x p A B A2 B2 c d c2 d2 lo hi l1 h1 l2 h2 w hx i1 i2
theorem mtake_i (x y : Mx) (p : Pkt) (cd : Int) (A B A2 B2 : Option Addr) (c d c2 d2 lo hi l1 h1 l2 h2 : Nat) (w : World) (h : mtakeM x p = y ∧ mtakeC x p = cd) (hx : MixR lo hi w A x.seen.length c B x.pool.length d x) (i1 : Ints l1 h1 w A2 p.hd.length c2 p.hd) (i2 : Ints l2 h2 w B2 p.bd.length d2 p.bd) :
    Calls Try.prog 23 #[.agg #[.int .i64 x.sec, .slice A x.seen.length c, .slice B x.pool.length d], .agg #[.int .i64 p.el, .slice A2 p.hd.length c2, .int .i64 p.tag, .slice B2 p.bd.length d2]] w (Im6.MixP y (.int .i64 cd) w) := by
  obtain ⟨rfl, rfl⟩ := h
  exact Im6.MixTakeP x p A B A2 B2 c d c2 d2 lo hi l1 h1 l2 h2 w hx i1 i2
theorem belAl {w w' : World} {b : Obj} (h : Below w.heap.size w w') : Below w.heap.size w (w'.alloc b) := h.alloc h.size _
theorem belTr {c W v : World} (h : Below c.heap.size c W) (k : Below W.heap.size W v) : Below c.heap.size c v := h.trans (k.mono h.size)
theorem belSet {c v : World} {g : Nat} {a b d : Value} (h : Below c.heap.size c v) (hg : c.heap.size ≤ g) : Below c.heap.size c (((v.setCell ⟨g, 0, none⟩ a).setCell ⟨g, 1, none⟩ b).setCell ⟨g, 2, none⟩ d) := ((h.setCell hg _).setCell hg _).setCell hg _
theorem zq_new {u v : World} {cs : Array Value} {t : TypeId} (h : Below (u.alloc (.cells cs t)).heap.size (u.alloc (.cells cs t)) v) : Blk v u.heap.size cs t ∧ u.heap.size < (u.alloc (.cells cs t)).heap.size :=
  ⟨(show Blk (u.alloc (.cells cs t)) u.heap.size cs t from heap_alloc_new _ _).below h (Nat.le_refl _), by simp⟩
theorem zq_newD {u v : World} {cs : Array Value} {t : TypeId} (h : Below (u.alloc (.cells cs t)).drew.heap.size (u.alloc (.cells cs t)).drew v) : Blk v u.heap.size cs t ∧ u.heap.size < (u.alloc (.cells cs t)).heap.size :=
  zq_new (show Below (u.alloc (.cells cs t)).heap.size (u.alloc (.cells cs t)) v from ⟨h.os, h.tape, h.output, h.size, h.block⟩)
theorem zq_old {u v : World} {g : Nat} {cs : Array Value} {t : TypeId} (hz : Blk u g cs t) (h : Below u.heap.size u v) : Blk v g cs t ∧ g < u.heap.size := ⟨hz.below h (Nat.le_refl _), blk_ltY hz⟩
/-- A mix stored in a block of its own. -/
def MidM (c w' : World) (g : Nat) (y : Mx) (A : Option Addr) (cc : Nat) (B : Option Addr) (dd : Nat) : Prop :=
  Below c.heap.size c w' ∧ Blk w' g #[.int .i64 y.sec, .slice A y.seen.length cc, .slice B y.pool.length dd] 26 ∧ c.heap.size ≤ g ∧ g < w'.heap.size ∧ MixR 0 w'.heap.size w' A y.seen.length cc B y.pool.length dd y
theorem midm_new {c v : World} {y : Mx} {A B : Option Addr} {cc dd lo hi : Nat} (hv : Below c.heap.size c v) (hr : MixR lo hi v A y.seen.length cc B y.pool.length dd y) :
    MidM c (v.alloc (.cells #[.int .i64 y.sec, .slice A y.seen.length cc, .slice B y.pool.length dd] 26)) v.heap.size y A cc B dd := by
  have h2 : Below v.heap.size v (v.alloc (.cells #[.int .i64 y.sec, .slice A y.seen.length cc, .slice B y.pool.length dd] 26)) := (Below.refl _ _).alloc (Nat.le_refl _) _
  exact ⟨belTr hv h2, heap_alloc_new _ _, hv.size, by simp, (hr.below h2 (Nat.le_refl _)).top (lo2 := 0) (Nat.zero_le _)⟩
theorem set3w {w : World} {g : Nat} {u0 u1 u2 v0 v1 v2 : Value} {t : TypeId} (h : w.heap[g]? = some (.cells #[u0, u1, u2] t (0, 0))) :
    (((w.setCell ⟨g, 0, none⟩ v0).setCell ⟨g, 1, none⟩ v1).setCell ⟨g, 2, none⟩ v2).heap[g]? = some (.cells #[v0, v1, v2] t (0, 0)) ∧ (((w.setCell ⟨g, 0, none⟩ v0).setCell ⟨g, 1, none⟩ v1).setCell ⟨g, 2, none⟩ v2).heap.size = w.heap.size := by
  refine ⟨?_, by simp [World.setCell]⟩
  simp [World.setCell, Array.getElem?_modify, h]
theorem midm_set {c v : World} {y : Mx} {A B : Option Addr} {cc dd lo hi g : Nat} {u0 u1 u2 : Value} (hv : Below c.heap.size c v) (hr : MixR lo hi v A y.seen.length cc B y.pool.length dd y) (hz : Blk v g #[u0, u1, u2] 26) (hg : c.heap.size ≤ g) (hg2 : g < lo) :
    MidM c (((v.setCell ⟨g, 0, none⟩ (.int .i64 y.sec)).setCell ⟨g, 1, none⟩ (.slice A y.seen.length cc)).setCell ⟨g, 2, none⟩ (.slice B y.pool.length dd)) g y A cc B dd := by
  obtain ⟨s1, s2⟩ := set3w (v0 := .int .i64 y.sec) (v1 := .slice A y.seen.length cc) (v2 := .slice B y.pool.length dd) hz
  have s3 := belSet (a := .int .i64 y.sec) (b := .slice A y.seen.length cc) (d := .slice B y.pool.length dd) hv hg
  have hfar : ∀ i, i ≠ g → (((v.setCell ⟨g, 0, none⟩ (.int .i64 y.sec)).setCell ⟨g, 1, none⟩ (.slice A y.seen.length cc)).setCell ⟨g, 2, none⟩ (.slice B y.pool.length dd)).heap[i]? = v.heap[i]? := fun i hi => (Below.heap_setCell _ _ _ _ hi).trans ((Below.heap_setCell _ _ _ _ hi).trans (Below.heap_setCell _ _ _ _ hi))
  have hl := blk_ltY hz
  generalize (((v.setCell ⟨g, 0, none⟩ (.int .i64 y.sec)).setCell ⟨g, 1, none⟩ (.slice A y.seen.length cc)).setCell ⟨g, 2, none⟩ (.slice B y.pool.length dd)) = W at s1 s2 s3 hfar ⊢
  have hr2 : MixR lo hi W A y.seen.length cc B y.pool.length dd y := ⟨hr.1.keep (Nat.le_of_eq s2.symm) fun b q1 q2 q3 => hfar b (by omega), hr.2.keep (Nat.le_of_eq s2.symm) fun b q1 q2 q3 => hfar b (by omega)⟩
  exact ⟨s3, s1, hg, by omega, hr2.top (lo2 := 0) (Nat.zero_le _)⟩
theorem MidM.bel {c w' : World} {g : Nat} {y : Mx} {A B : Option Addr} {cc dd : Nat} (h : MidM c w' g y A cc B dd) : Below c.heap.size c w' := h.1
/-- A zero mix in a block of its own, below what has been made since. -/
def ZB (c v : World) (l g : Nat) : Prop := Blk v g #[.int .i64 0, .slice none 0 0, .slice none 0 0] 26 ∧ c.heap.size ≤ g ∧ g < l
theorem zb_new {c u v : World} (h : Below c.heap.size c u) (k : Below (u.alloc (.cells #[.int .i64 0, .slice none 0 0, .slice none 0 0] 26)).heap.size (u.alloc (.cells #[.int .i64 0, .slice none 0 0, .slice none 0 0] 26)) v) : ZB c v (u.alloc (.cells #[.int .i64 0, .slice none 0 0, .slice none 0 0] 26)).heap.size u.heap.size :=
  ⟨(zq_new k).1, h.size, (zq_new k).2⟩
theorem zb_newD {c u v : World} (h : Below c.heap.size c u) (k : Below (u.alloc (.cells #[.int .i64 0, .slice none 0 0, .slice none 0 0] 26)).drew.heap.size (u.alloc (.cells #[.int .i64 0, .slice none 0 0, .slice none 0 0] 26)).drew v) : ZB c v (u.alloc (.cells #[.int .i64 0, .slice none 0 0, .slice none 0 0] 26)).heap.size u.heap.size :=
  ⟨(zq_newD k).1, h.size, (zq_newD k).2⟩
theorem zb_old {c u v : World} {l g : Nat} (z : ZB c u l g) (k : Below u.heap.size u v) : ZB c v u.heap.size g := ⟨(zq_old z.1 k).1, z.2.1, (zq_old z.1 k).2⟩
theorem zb_cells {c v : World} {l g : Nat} (z : ZB c v l g) : v.cell? ⟨g, 0, none⟩ = some (.int .i64 0) ∧ v.cell? ⟨g, 1, none⟩ = some (.slice none 0 0) ∧ v.cell? ⟨g, 2, none⟩ = some (.slice none 0 0) ∧ ∀ j, v.frozen? ⟨g, j, none⟩ = false := Sp6.three_cells z.1
theorem zb_mid {c v : World} {y : Mx} {A B : Option Addr} {cc dd l hi g : Nat} (hv : Below c.heap.size c v) (hr : MixR l hi v A y.seen.length cc B y.pool.length dd y) (z : ZB c v l g) :
    MidM c (((v.setCell ⟨g, 0, none⟩ (.int .i64 y.sec)).setCell ⟨g, 1, none⟩ (.slice A y.seen.length cc)).setCell ⟨g, 2, none⟩ (.slice B y.pool.length dd)) g y A cc B dd := midm_set hv hr z.1 z.2.1 z.2.2
theorem within2 {lo hi n m b1 b2 : Nat} (h1 : lo ≤ b1) (h2 : lo ≤ b2) (t1 : 0 < n → b1 < hi) (t2 : 0 < m → b2 < hi) : Within lo hi [fp n b1, fp m b2] := by
  intro f hf x hx
  simp at hf
  rcases hf with rfl | rfl
  · obtain ⟨q, rfl⟩ := mem_fp.1 hx
    exact ⟨h1, t1 q⟩
  · obtain ⟨q, rfl⟩ := mem_fp.1 hx
    exact ⟨h2, t2 q⟩
theorem kept2_G {n m b1 b2 : Nat} {w w' : World} (h : Kept2 n m b1 b2 w w') : KeptG [fp n b1, fp m b2] w w' :=
  ⟨h.os, h.tape, h.output, h.size, fun b hb hn => h.block b hb (fun q e => hn (fp n b1) (by simp) (mem_fp.2 ⟨q, e⟩)) (fun q e => hn (fp m b2) (by simp) (mem_fp.2 ⟨q, e⟩))⟩
theorem lies_keptG {G : List (List Nat)} {w w' : World} {lo2 hi2 g1 g2 : Nat} {A B : Option Addr} {c d : Nat} {p : Pkt} (h : Lies w g1 g2 A c B d p) (hk : KeptG G w w') (hw : Within lo2 hi2 G) (h1 : hi2 ≤ g1) (h2 : hi2 ≤ g2) : Lies w' g1 g2 A c B d p := by
  obtain ⟨t1, t2⟩ := lies_lt h
  exact ⟨own_keepC h.1 hk.size fun q => keptG_at hk hw _ (t1 q) (.inr h1), own_keepC h.2.1 hk.size fun q => keptG_at hk hw _ (t2 q) (.inr h2), h.2.2⟩
set_option maxRecDepth 20000 in
theorem markPacketW (el tag : Int) (n m b1 b2 : Nat) (A B : Option Addr) (c d : Nat) (xs ys : List Int) (k0 : Int) (w : World) (o1 : Il.Own b1 (b1 + 1) w A n c xs) (o2 : Il.Own b2 (b2 + 1) w B m d ys) (hne : b1 ≠ b2) (hn : n ≤ 2000000) (hm : m ≤ 2000000) (h0 : 0 ≤ k0) (h1 : k0 ≤ 6000000) :
    Calls Try.prog 26 #[.agg #[.int .i64 el, .slice A n c, .int .i64 tag, .slice B m d], .int .i64 k0] w (MarkP n m b1 b2 A B c d k0 w) := by
  have hal : Below w.heap.size w (w.alloc (.cells #[.int .i64 el, .slice A n c, .int .i64 tag, .slice B m d] 37)) := (Below.refl _ _).alloc (Nat.le_refl _) _
  have hz : Blk (w.alloc (.cells #[.int .i64 el, .slice A n c, .int .i64 tag, .slice B m d] 37)) w.heap.size #[.int .i64 el, .slice A n c, .int .i64 tag, .slice B m d] 37 := heap_alloc_new _ _
  obtain ⟨lo1, hi1, o1', e1, f1⟩ := own_rng o1
  obtain ⟨lo2, hi2, o2', e2, f2⟩ := own_rng o2
  have O1 := Lib.hid (o1'.below hal (Nat.le_refl _))
  have O2 := Lib.hid (o2'.below hal (Nat.le_refl _))
  have HZ := Lib.hid hz
  have HAL := Lib.hid hal
  have g12 : hi1 ≤ lo2 ∨ hi2 ≤ lo1 := by
    rcases Nat.eq_zero_or_pos n with q | q <;> rcases Nat.eq_zero_or_pos m with q' | q'
    · have := e1 q; omega
    · have := e1 q; omega
    · have := e2 q'; omega
    · have := f1 q; have := f2 q'; omega
  have g1 : w.heap.size < lo1 ∨ hi1 ≤ w.heap.size := by
    rcases Nat.eq_zero_or_pos n with q | q
    · have := e1 q; omega
    · have := f1 q; omega
  have g2 : w.heap.size < lo2 ∨ hi2 ≤ w.heap.size := by
    rcases Nat.eq_zero_or_pos m with q | q
    · have := e2 q; omega
    · have := f2 q; omega
  have F1 := Lib.hid f1
  have F2 := Lib.hid f2
  have E1 := Lib.hid e1
  have E2 := Lib.hid e2
  clear o1 o2 o1' o2' hal hz f1 f2 e1 e2
  go_enter Try.func26, Try.ntmps26
  go_wp2_with fail
  ((with_reducible refine (Hlp.markIntS _ _ _ _ _ _ k0 _ O1.out (by omega) (by omega) (by omega)).mono ?_); rintro e w1 ⟨rfl, m1, k1⟩)
  have O2' := Lib.hid (O2.out.kept k1 (by omega))
  have HZ1 := Lib.hid (blk_kept HZ.out k1 (by omega))
  have M1 := Lib.hid m1
  have K1 := Lib.hid k1
  clear m1 k1 O2 HZ O1
  obtain ⟨p0, p1, p2, p3, pf⟩ := four_cells HZ1.out
  go_wp2_with fail
  ((with_reducible refine (Hlp.markIntS _ _ _ _ _ _ (k0 + n) _ O2'.out (by omega) (by omega) (by omega)).mono ?_); rintro e w2 ⟨rfl, m2, k2⟩)
  have HP : Hid (MarkP n m b1 b2 A B c d k0 w (.returned (.int .i64 (k0 + n + m))) w2) := by
    refine ⟨rfl, own_back (M1.out.kept k2 (by omega)) (fun h => ⟨(F1.out h).1, (F1.out h).2.1⟩), own_back m2 (fun h => ⟨(F2.out h).1, (F2.out h).2.1⟩), ⟨?_, ?_, ?_, ?_, ?_⟩⟩
    · exact k2.os.trans (K1.out.os.trans HAL.out.os)
    · exact k2.tape.trans (K1.out.tape.trans HAL.out.tape)
    · exact k2.output.trans (K1.out.output.trans HAL.out.output)
    · have q1 := HAL.out.size
      have q2 := K1.out.size
      have q3 := k2.size
      omega
    · intro b hb n1 n2
      have r1 : b < lo1 ∨ hi1 ≤ b := by
        rcases Nat.eq_zero_or_pos n with q | q
        · have := E1.out q; omega
        · have := F1.out q; have := n1 q; omega
      have r2 : b < lo2 ∨ hi2 ≤ b := by
        rcases Nat.eq_zero_or_pos m with q | q
        · have := E2.out q; omega
        · have := F2.out q; have := n2 q; omega
      exact (k2.block b r2).trans ((K1.out.block b r1).trans (HAL.out.block b hb))
  clear m2 k2 p0 p1 p2 p3 pf
  go_wp2
  go_ret
  exact HP.out
set_option maxRecDepth 20000 in
set_option maxHeartbeats 4000000 in
theorem fnExactMixTake (x : Mx) (A B : Option Addr) (c d lo hi : Nat) (p : Pkt) (PA PB : Option Addr) (pc pd : Nat) (w : World) (hx : MixR lo hi w A x.seen.length c B x.pool.length d x) (i1 : Ints 0 w.heap.size w PA p.hd.length pc p.hd) (i2 : Ints 0 w.heap.size w PB p.bd.length pd p.bd) :
    Calls Try.prog 6 #[.agg #[.int .i64 x.sec, .slice A x.seen.length c, .slice B x.pool.length d], .agg #[.int .i64 p.el, .slice PA p.hd.length pc, .int .i64 p.tag, .slice PB p.bd.length pd]] w (TruePost w) := by
  have hm1 : p.hd.length ≤ maxLen := Nat.le_trans i1.2.1 i1.2.2.1
  have hm2 : p.bd.length ≤ maxLen := Nat.le_trans i2.2.1 i2.2.2.1
  have hal0 : Below w.heap.size w (w.alloc (.cells #[.int .i64 x.sec, .slice A x.seen.length c, .slice B x.pool.length d] 42)) := (Below.refl _ _).alloc (Nat.le_refl _) _
  have hal : Below w.heap.size w ((w.alloc (.cells #[.int .i64 x.sec, .slice A x.seen.length c, .slice B x.pool.length d] 42)).alloc (.cells #[.int .i64 p.el, .slice PA p.hd.length pc, .int .i64 p.tag, .slice PB p.bd.length pd] 46)) := hal0.alloc hal0.size _
  have hsz1 : (w.alloc (.cells #[.int .i64 x.sec, .slice A x.seen.length c, .slice B x.pool.length d] 42)).heap.size = w.heap.size + 1 := by simp
  have BB : Hid (Below w.heap.size w ((w.alloc (.cells #[.int .i64 x.sec, .slice A x.seen.length c, .slice B x.pool.length d] 42)).alloc (.cells #[.int .i64 p.el, .slice PA p.hd.length pc, .int .i64 p.tag, .slice PB p.bd.length pd] 46))) := hal
  have RX := Lib.hid ((hx.top (lo2 := 0) (Nat.zero_le _)).below hal (Nat.le_refl _))
  have IA := Lib.hid (i1.below hal (Nat.le_refl _))
  have IB := Lib.hid (i2.below hal (Nat.le_refl _))
  have hZ0 : Blk ((w.alloc (.cells #[.int .i64 x.sec, .slice A x.seen.length c, .slice B x.pool.length d] 42)).alloc (.cells #[.int .i64 p.el, .slice PA p.hd.length pc, .int .i64 p.tag, .slice PB p.bd.length pd] 46)) w.heap.size #[.int .i64 x.sec, .slice A x.seen.length c, .slice B x.pool.length d] 42 := (show Blk (w.alloc (.cells #[.int .i64 x.sec, .slice A x.seen.length c, .slice B x.pool.length d] 42)) w.heap.size #[.int .i64 x.sec, .slice A x.seen.length c, .slice B x.pool.length d] 42 from heap_alloc_new _ _).below ((Below.refl _ _).alloc (Nat.le_refl _) _) (Nat.le_refl _)
  have hZA : Blk ((w.alloc (.cells #[.int .i64 x.sec, .slice A x.seen.length c, .slice B x.pool.length d] 42)).alloc (.cells #[.int .i64 p.el, .slice PA p.hd.length pc, .int .i64 p.tag, .slice PB p.bd.length pd] 46)) (w.heap.size + 1) #[.int .i64 p.el, .slice PA p.hd.length pc, .int .i64 p.tag, .slice PB p.bd.length pd] 46 := by rw [← hsz1]; exact heap_alloc_new _ _
  have Z0 := Lib.hid hZ0
  have ZA := Lib.hid hZA
  have hw0s : w.heap.size + 1 < ((w.alloc (.cells #[.int .i64 x.sec, .slice A x.seen.length c, .slice B x.pool.length d] 42)).alloc (.cells #[.int .i64 p.el, .slice PA p.hd.length pc, .int .i64 p.tag, .slice PB p.bd.length pd] 46)).heap.size := by simp
  clear hx i1 i2 hal hal0 hZ0 hZA hsz1
  go_enter Try.func6, Try.ntmps6
  go_upto_region 2 with (fail)
  generalize hw0 : ((w.alloc (.cells #[.int .i64 x.sec, .slice A x.seen.length c, .slice B x.pool.length d] 42)).alloc (.cells #[.int .i64 p.el, .slice PA p.hd.length pc, .int .i64 p.tag, .slice PB p.bd.length pd] 46)) = w0 at *
  clear hw0
  obtain ⟨m0, m1, m2, mf⟩ := Sp6.three_cells Z0.out
  go_wp2_with fail
  ((with_reducible refine (szMix x _ _ _ _ _ _ 1048576 _ RX.out (by omega) (by omega)).mono ?_); rintro e w1 ⟨v, rfl, hv, hb⟩)
  replace RX := Lib.hid (RX.out.below hb (Nat.le_refl _))
  replace IA := Lib.hid (IA.out.below hb (Nat.le_refl _))
  replace IB := Lib.hid (IB.out.below hb (Nat.le_refl _))
  replace Z0 := Lib.hid (Z0.out.below hb (Nat.le_refl _))
  replace ZA := Lib.hid (ZA.out.below hb (Nat.le_refl _))
  replace BB := Lib.hid (BB.out.trans (hb.mono BB.out.size))
  have z1 := hb.size
  clear hb
  clear m0 m1 m2 mf
  by_cases hneg : v < 0
  · clear hv
    go_wp2
    go_ret
    exact ⟨rfl, BB.out⟩
  obtain ⟨hn, hm, hh, ht⟩ := fits_b (x := x) (by rcases hv with hv | hv; exact absurd hv hneg; exact hv.1)
  have HN := Lib.hid hn
  have HM := Lib.hid hm
  have HH := Lib.hid hh
  have hv0 : 0 ≤ v := by omega
  have hv1 : v ≤ 1048576 := by omega
  clear hv hneg hn hm hh
  obtain ⟨a0, a1, a2, a3, af⟩ := four_cells ZA.out
  go_wp2_with fail
  ((with_reducible refine (szPacketL p.el p.tag p.hd.length p.bd.length _ _ _ _ v _ hm1 hm2 hv0 (by omega)).mono ?_); rintro e w2 ⟨rfl, hb⟩)
  replace RX := Lib.hid (RX.out.below hb (Nat.le_refl _))
  replace IA := Lib.hid (IA.out.below hb (Nat.le_refl _))
  replace IB := Lib.hid (IB.out.below hb (Nat.le_refl _))
  replace Z0 := Lib.hid (Z0.out.below hb (Nat.le_refl _))
  replace ZA := Lib.hid (ZA.out.below hb (Nat.le_refl _))
  replace BB := Lib.hid (BB.out.trans (hb.mono BB.out.size))
  have z2 := hb.size
  clear hb
  clear a0 a1 a2 a3 af
  by_cases hpl : (p.hd.length : Int) + p.bd.length ≤ v
  case neg =>
    rw [if_neg hpl]
    go_wp2
    go_ret
    exact ⟨rfl, BB.out⟩
  rw [if_pos hpl]
  have hpn : p.hd.length ≤ 1048576 := by omega
  have hpm : p.bd.length ≤ 1048576 := by omega
  have hq0 : 0 ≤ v - (p.hd.length : Int) - (p.bd.length : Int) := by omega
  generalize v - (p.hd.length : Int) - (p.bd.length : Int) = v2 at hq0 ⊢
  clear hpl hv0 hv1 hm1 hm2
  have hty := take_len x p
  generalize hny : mtakeM x p = y at *
  generalize hnc : mtakeC x p = cd at *
  have HNX := Lib.hid (And.intro hny hnc)
  clear hny hnc
  have e0 : (cd != cd) = false := by simp
  go_upto_region 8 with (fail)
  have HS : Hid (∀ W', Below w2.heap.size w2 W' → (W'.cell? ⟨w.heap.size, 0, none⟩ = some (.int .i64 x.sec) ∧ W'.cell? ⟨w.heap.size, 1, none⟩ = some (.slice A x.seen.length c) ∧ W'.cell? ⟨w.heap.size, 2, none⟩ = some (.slice B x.pool.length d) ∧ W'.cell? ⟨w.heap.size + 1, 0, none⟩ = some (.int .i64 p.el) ∧ W'.cell? ⟨w.heap.size + 1, 1, none⟩ = some (.slice PA p.hd.length pc) ∧ W'.cell? ⟨w.heap.size + 1, 2, none⟩ = some (.int .i64 p.tag) ∧ W'.cell? ⟨w.heap.size + 1, 3, none⟩ = some (.slice PB p.bd.length pd))) := Lib.hid (fun W' hb => ⟨((Sp6.three_cells) (Z0.out.below hb (Nat.le_refl _))).1, ((Sp6.three_cells) (Z0.out.below hb (Nat.le_refl _))).2.1, ((Sp6.three_cells) (Z0.out.below hb (Nat.le_refl _))).2.2.1, ((four_cells) (ZA.out.below hb (Nat.le_refl _))).1, ((four_cells) (ZA.out.below hb (Nat.le_refl _))).2.1, ((four_cells) (ZA.out.below hb (Nat.le_refl _))).2.2.1, ((four_cells) (ZA.out.below hb (Nat.le_refl _))).2.2.2.1⟩)
  have DD : Hid (Below w2.heap.size w2 w2.drew) := Lib.hid (drew_blY (Below.refl _ _))
  have DZ : Hid (Below w2.heap.size w2 (w2.alloc (.cells #[.int .i64 0, .slice none 0 0, .slice none 0 0] 26)).drew) := Lib.hid (drew_blY (belAl (Below.refl _ _)))
  have KX : Hid (∀ W', Below w2.heap.size w2 W' → MixR 0 w.heap.size W' A x.seen.length c B x.pool.length d x) := Lib.hid (fun W' hb => RX.out.below hb (Nat.le_refl _))
  have KA : Hid (∀ W', Below w2.heap.size w2 W' → Ints 0 w.heap.size W' PA p.hd.length pc p.hd) := Lib.hid (fun W' hb => IA.out.below hb (Nat.le_refl _))
  have KB : Hid (∀ W', Below w2.heap.size w2 W' → Ints 0 w.heap.size W' PB p.bd.length pd p.bd) := Lib.hid (fun W' hb => IB.out.below hb (Nat.le_refl _))
  go_cut [6, 7] (fun sa sb wx => ∃ (g : Nat) (A5 : Option Addr) (c5 : Nat) (B5 : Option Addr) (d5 : Nat), sa = .pointer (some ⟨g, 0, none⟩) ∧ sb = .int .i64 cd ∧ MidM w2 wx g y A5 c5 B5 d5)
  case first =>
    go_region_held3 (fun w' => (w'.cell? ⟨w.heap.size, 0, none⟩ = some (.int .i64 x.sec) ∧ w'.cell? ⟨w.heap.size, 1, none⟩ = some (.slice A x.seen.length c) ∧ w'.cell? ⟨w.heap.size, 2, none⟩ = some (.slice B x.pool.length d) ∧ w'.cell? ⟨w.heap.size + 1, 0, none⟩ = some (.int .i64 p.el) ∧ w'.cell? ⟨w.heap.size + 1, 1, none⟩ = some (.slice PA p.hd.length pc) ∧ w'.cell? ⟨w.heap.size + 1, 2, none⟩ = some (.int .i64 p.tag) ∧ w'.cell? ⟨w.heap.size + 1, 3, none⟩ = some (.slice PB p.bd.length pd)))
      (first | with_reducible exact HS.out _ DD.out | with_reducible exact HS.out _ DZ.out | with_reducible exact HS.out _ b8 | with_reducible exact HS.out _ (belAl b8) | with_reducible exact HS.out _ b9 | with_reducible exact HS.out _ (belAl b9) | with_reducible exact HS.out _ bF | with_reducible exact HS.out _ (belAl bF) | with_reducible exact HS.out _ HG.out.bel | fail)
      (first
        | (go_at_call 21; (first | with_reducible refine (mtake_s x y p cd _ _ _ _ _ _ _ _ _ _ _ _ _ _ _ HNX.out mx9 i9 j9).mono ?_ | with_reducible refine (mtake_s x y p cd _ _ _ _ _ _ _ _ _ _ _ _ _ _ _ HNX.out mx9z i9z j9z).mono ?_); rintro e vF ⟨AF, cF, BF, dF, rfl, hrF, hbF⟩; skip; (first | with_reducible have kF : Below v9.heap.size v9 vF := hbF | with_reducible have kF : Below v9.heap.size v9 vF := belTr al9 hbF); have bF := belTr b9 kF; (first | (have zbF := zb_old zb9 hbF; obtain ⟨z0, z1, z2, zf⟩ := zb_cells zbF; have HG := Lib.hid (zb_mid bF hrF zbF)) | (have zbF := zb_new b9 hbF; obtain ⟨z0, z1, z2, zf⟩ := zb_cells zbF; have HG := Lib.hid (zb_mid bF hrF zbF)) | have HG := Lib.hid (midm_new bF hrF)))
        | (go_at_call 22; (first | with_reducible refine (toPacket p _ _ _ _ _ _ _ _ _ (KA.out _ b8) (KB.out _ b8) hpn hpm).mono ?_ | with_reducible refine (toPacket p _ _ _ _ _ _ _ _ _ (KA.out _ (belAl b8)) (KB.out _ (belAl b8)) hpn hpm).mono ?_); rintro e v9 ⟨A9, c9, B9, d9, b19, b29, rfl, hl9, hq19, hq29, hb9⟩; (first | with_reducible have k9 : Below v8.heap.size v8 v9 := hb9 | with_reducible have k9 : Below v8.heap.size v8 v9 := belTr (belAl (Below.refl _ _)) hb9); have b9 := belTr b8 k9; have mx9 := (ho8.below k9 (Nat.le_refl _)).mix hw8; have i9 := hl9.hdr.ints; have j9 := hl9.bdy.ints; have al9 : Below v9.heap.size v9 (v9.alloc (.cells #[.int .i64 0, .slice none 0 0, .slice none 0 0] 26)) := belAl (Below.refl _ _); have mx9z := mx9.below al9 (Nat.le_refl _); have i9z := i9.below al9 (Nat.le_refl _); have j9z := j9.below al9 (Nat.le_refl _); (first | have zb9 := zb_old zb8 hb9 | have zb9 := zb_new b8 hb9 | skip))
        | (go_at_call 17; (first | with_reducible refine (toMix x _ _ _ _ _ _ _ (KX.out _ DD.out) HN.out HM.out HH.out).mono ?_ | with_reducible refine (toMix x _ _ _ _ _ _ _ (KX.out _ DZ.out) HN.out HM.out HH.out).mono ?_); rintro e v8 ⟨A8, c8, B8, d8, G8, rfl, ho8, hw8, hb8⟩; (first | with_reducible have b8 : Below w2.heap.size w2 v8 := belTr DD.out hb8 | with_reducible have b8 : Below w2.heap.size w2 v8 := belTr DZ.out hb8); (first | have zb8 := zb_newD (Below.refl _ _) hb8 | skip))
        | fail)
    all_goals
      go_wp2_with fail
      go_meet
      case rel => exact ⟨_, _, _, _, _, rfl, rfl, HG.out⟩
  case rest =>
    obtain ⟨gS, AS, cS, BS, dS, rfl, rfl, hmid⟩ := hcut
    revert hmid
    generalize wc = wS
    intro hmid
    have hbq := hmid.bel
    obtain ⟨_, hzz, hg1S, hg2S, hrr⟩ := hmid
    replace RX := Lib.hid (RX.out.below hbq (Nat.le_refl _))
    replace IA := Lib.hid (IA.out.below hbq (Nat.le_refl _))
    replace IB := Lib.hid (IB.out.below hbq (Nat.le_refl _))
    replace Z0 := Lib.hid (Z0.out.below hbq (Nat.le_refl _))
    replace ZA := Lib.hid (ZA.out.below hbq (Nat.le_refl _))
    replace BB := Lib.hid (BB.out.trans (hbq.mono BB.out.size))
    have ZS := Lib.hid hzz
    have RS := Lib.hid hrr
    have zSq := hbq.size
    clear hzz hrr hbq HS DD DZ KX KA KB
    obtain ⟨m0, m1, m2, mf⟩ := Sp6.three_cells Z0.out
    go_wp2_with fail
    ((with_reducible refine (toMix x _ _ _ _ _ _ _ RX.out HN.out HM.out HH.out).mono ?_); rintro e w3 ⟨A2, c2, B2, d2, G2, rfl, ho, hw, hb⟩)
    replace RX := Lib.hid (RX.out.below hb (Nat.le_refl _))
    replace IA := Lib.hid (IA.out.below hb (Nat.le_refl _))
    replace IB := Lib.hid (IB.out.below hb (Nat.le_refl _))
    replace Z0 := Lib.hid (Z0.out.below hb (Nat.le_refl _))
    replace ZA := Lib.hid (ZA.out.below hb (Nat.le_refl _))
    replace ZS := Lib.hid (ZS.out.below hb (Nat.le_refl _))
    replace RS := Lib.hid (RS.out.below hb (Nat.le_refl _))
    replace BB := Lib.hid (BB.out.trans (hb.mono BB.out.size))
    have z3 := hb.size
    have M2 := Lib.hid ho
    have HM2 := Lib.hid hw
    clear ho hw hb
    clear m0 m1 m2 mf
    have hal : Below w3.heap.size w3 (w3.alloc (.cells #[.int .i64 x.sec, .slice A2 x.seen.length c2, .slice B2 x.pool.length d2] 26)) := (Below.refl _ _).alloc (Nat.le_refl _) _
    have hzz : Blk (w3.alloc (.cells #[.int .i64 x.sec, .slice A2 x.seen.length c2, .slice B2 x.pool.length d2] 26)) w3.heap.size #[.int .i64 x.sec, .slice A2 x.seen.length c2, .slice B2 x.pool.length d2] 26 := heap_alloc_new _ _
    replace RX := Lib.hid (RX.out.below hal (Nat.le_refl _))
    replace IA := Lib.hid (IA.out.below hal (Nat.le_refl _))
    replace IB := Lib.hid (IB.out.below hal (Nat.le_refl _))
    replace Z0 := Lib.hid (Z0.out.below hal (Nat.le_refl _))
    replace ZA := Lib.hid (ZA.out.below hal (Nat.le_refl _))
    replace ZS := Lib.hid (ZS.out.below hal (Nat.le_refl _))
    replace RS := Lib.hid (RS.out.below hal (Nat.le_refl _))
    replace M2 := Lib.hid (M2.out.below hal (Nat.le_refl _))
    replace BB := Lib.hid (BB.out.trans (hal.mono BB.out.size))
    have Z2 := Lib.hid hzz
    clear hzz
    clear hal
    have hz2 : w3.heap.size < (w3.alloc (.cells #[.int .i64 x.sec, .slice A2 x.seen.length c2, .slice B2 x.pool.length d2] 26)).heap.size := by simp
    obtain ⟨a0, a1, a2, a3, af⟩ := four_cells ZA.out
    go_wp2_with fail
    ((with_reducible refine (toPacket p _ _ _ _ _ _ _ _ _ IA.out IB.out hpn hpm).mono ?_); rintro e w5 ⟨AX, cx, BX, dx, b1X, b2X, rfl, hlie, hq1, hq2, hb⟩)
    replace RX := Lib.hid (RX.out.below hb (Nat.le_refl _))
    replace IA := Lib.hid (IA.out.below hb (Nat.le_refl _))
    replace IB := Lib.hid (IB.out.below hb (Nat.le_refl _))
    replace Z0 := Lib.hid (Z0.out.below hb (Nat.le_refl _))
    replace ZA := Lib.hid (ZA.out.below hb (Nat.le_refl _))
    replace ZS := Lib.hid (ZS.out.below hb (Nat.le_refl _))
    replace RS := Lib.hid (RS.out.below hb (Nat.le_refl _))
    replace M2 := Lib.hid (M2.out.below hb (Nat.le_refl _))
    replace Z2 := Lib.hid (Z2.out.below hb (Nat.le_refl _))
    replace BB := Lib.hid (BB.out.trans (hb.mono BB.out.size))
    have z5 := hb.size
    have LX := Lib.hid hlie
    clear hlie hb
    clear a0 a1 a2 a3 af
    obtain ⟨t5, t6⟩ := lies_lt LX.out
    have HLX := Lib.hid (within2 hq1 hq2 t5 t6)
    clear t5 t6
    have hal : Below w5.heap.size w5 (w5.alloc (.cells #[.int .i64 p.el, .slice AX p.hd.length cx, .int .i64 p.tag, .slice BX p.bd.length dx] 37)) := (Below.refl _ _).alloc (Nat.le_refl _) _
    have hzz : Blk (w5.alloc (.cells #[.int .i64 p.el, .slice AX p.hd.length cx, .int .i64 p.tag, .slice BX p.bd.length dx] 37)) w5.heap.size #[.int .i64 p.el, .slice AX p.hd.length cx, .int .i64 p.tag, .slice BX p.bd.length dx] 37 := heap_alloc_new _ _
    replace RX := Lib.hid (RX.out.below hal (Nat.le_refl _))
    replace IA := Lib.hid (IA.out.below hal (Nat.le_refl _))
    replace IB := Lib.hid (IB.out.below hal (Nat.le_refl _))
    replace Z0 := Lib.hid (Z0.out.below hal (Nat.le_refl _))
    replace ZA := Lib.hid (ZA.out.below hal (Nat.le_refl _))
    replace ZS := Lib.hid (ZS.out.below hal (Nat.le_refl _))
    replace RS := Lib.hid (RS.out.below hal (Nat.le_refl _))
    replace M2 := Lib.hid (M2.out.below hal (Nat.le_refl _))
    replace Z2 := Lib.hid (Z2.out.below hal (Nat.le_refl _))
    replace LX := Lib.hid (LX.out.below hal (Nat.le_refl _))
    replace BB := Lib.hid (BB.out.trans (hal.mono BB.out.size))
    have ZX := Lib.hid hzz
    clear hzz
    clear hal
    have hzX : w5.heap.size < (w5.alloc (.cells #[.int .i64 p.el, .slice AX p.hd.length cx, .int .i64 p.tag, .slice BX p.bd.length dx] 37)).heap.size := by simp
    obtain ⟨m0, m1, m2, mf⟩ := Sp6.three_cells Z2.out
    obtain ⟨q0, q1, q2, q3, qf⟩ := four_cells ZX.out
    go_wp2_with fail
    ((with_reducible refine (mtake_i x y p cd _ _ _ _ _ _ _ _ _ _ _ _ _ _ _ HNX.out (M2.out.mix HM2.out) LX.out.hdr.ints LX.out.bdy.ints).mono ?_); rintro e w7 ⟨AG, cG, BG, dG, GG, rfl, ho, hw, hb⟩)
    replace RX := Lib.hid (RX.out.below hb (Nat.le_refl _))
    replace IA := Lib.hid (IA.out.below hb (Nat.le_refl _))
    replace IB := Lib.hid (IB.out.below hb (Nat.le_refl _))
    replace Z0 := Lib.hid (Z0.out.below hb (Nat.le_refl _))
    replace ZA := Lib.hid (ZA.out.below hb (Nat.le_refl _))
    replace ZS := Lib.hid (ZS.out.below hb (Nat.le_refl _))
    replace RS := Lib.hid (RS.out.below hb (Nat.le_refl _))
    replace M2 := Lib.hid (M2.out.below hb (Nat.le_refl _))
    replace Z2 := Lib.hid (Z2.out.below hb (Nat.le_refl _))
    replace LX := Lib.hid (LX.out.below hb (Nat.le_refl _))
    replace ZX := Lib.hid (ZX.out.below hb (Nat.le_refl _))
    replace BB := Lib.hid (BB.out.trans (hb.mono BB.out.size))
    have z7 := hb.size
    have MG := Lib.hid ho
    have HMG := Lib.hid hw
    clear ho hw hb
    clear m0 m1 m2 mf q0 q1 q2 q3 qf
    have hal : Below w7.heap.size w7 (w7.alloc (.cells #[.int .i64 y.sec, .slice AG y.seen.length cG, .slice BG y.pool.length dG] 26)) := (Below.refl _ _).alloc (Nat.le_refl _) _
    have hzz : Blk (w7.alloc (.cells #[.int .i64 y.sec, .slice AG y.seen.length cG, .slice BG y.pool.length dG] 26)) w7.heap.size #[.int .i64 y.sec, .slice AG y.seen.length cG, .slice BG y.pool.length dG] 26 := heap_alloc_new _ _
    replace RX := Lib.hid (RX.out.below hal (Nat.le_refl _))
    replace IA := Lib.hid (IA.out.below hal (Nat.le_refl _))
    replace IB := Lib.hid (IB.out.below hal (Nat.le_refl _))
    replace Z0 := Lib.hid (Z0.out.below hal (Nat.le_refl _))
    replace ZA := Lib.hid (ZA.out.below hal (Nat.le_refl _))
    replace ZS := Lib.hid (ZS.out.below hal (Nat.le_refl _))
    replace RS := Lib.hid (RS.out.below hal (Nat.le_refl _))
    replace M2 := Lib.hid (M2.out.below hal (Nat.le_refl _))
    replace Z2 := Lib.hid (Z2.out.below hal (Nat.le_refl _))
    replace LX := Lib.hid (LX.out.below hal (Nat.le_refl _))
    replace ZX := Lib.hid (ZX.out.below hal (Nat.le_refl _))
    replace MG := Lib.hid (MG.out.below hal (Nat.le_refl _))
    replace BB := Lib.hid (BB.out.trans (hal.mono BB.out.size))
    have ZG := Lib.hid hzz
    clear hzz
    clear hal
    have hzG : w7.heap.size < (w7.alloc (.cells #[.int .i64 y.sec, .slice AG y.seen.length cG, .slice BG y.pool.length dG] 26)).heap.size := by simp
    obtain ⟨m0, m1, m2, mf⟩ := Sp6.three_cells ZG.out
    obtain ⟨s0, s1, s2, sf⟩ := Sp6.three_cells ZS.out
    go_wp2_with fail
    ((with_reducible refine (eqMix y _ _ _ _ _ _ _ _ _ _ _ _ _ _ _ (MG.out.mix HMG.out) RS.out).mono ?_); rintro e w9 ⟨rfl, hb⟩)
    replace RX := Lib.hid (RX.out.below hb (Nat.le_refl _))
    replace IA := Lib.hid (IA.out.below hb (Nat.le_refl _))
    replace IB := Lib.hid (IB.out.below hb (Nat.le_refl _))
    replace Z0 := Lib.hid (Z0.out.below hb (Nat.le_refl _))
    replace ZA := Lib.hid (ZA.out.below hb (Nat.le_refl _))
    replace ZS := Lib.hid (ZS.out.below hb (Nat.le_refl _))
    replace RS := Lib.hid (RS.out.below hb (Nat.le_refl _))
    replace M2 := Lib.hid (M2.out.below hb (Nat.le_refl _))
    replace Z2 := Lib.hid (Z2.out.below hb (Nat.le_refl _))
    replace LX := Lib.hid (LX.out.below hb (Nat.le_refl _))
    replace ZX := Lib.hid (ZX.out.below hb (Nat.le_refl _))
    replace MG := Lib.hid (MG.out.below hb (Nat.le_refl _))
    replace ZG := Lib.hid (ZG.out.below hb (Nat.le_refl _))
    replace BB := Lib.hid (BB.out.trans (hb.mono BB.out.size))
    have z9 := hb.size
    clear hb
    clear m0 m1 m2 mf s0 s1 s2 sf
    go_upto_region 14 with (fail)
    have HS : Hid (∀ W', Below w9.heap.size w9 W' → (W'.cell? ⟨w3.heap.size, 0, none⟩ = some (.int .i64 x.sec) ∧ W'.cell? ⟨w3.heap.size, 1, none⟩ = some (.slice A2 x.seen.length c2) ∧ W'.cell? ⟨w3.heap.size, 2, none⟩ = some (.slice B2 x.pool.length d2) ∧ W'.cell? ⟨w.heap.size, 0, none⟩ = some (.int .i64 x.sec) ∧ W'.cell? ⟨w.heap.size, 1, none⟩ = some (.slice A x.seen.length c) ∧ W'.cell? ⟨w.heap.size, 2, none⟩ = some (.slice B x.pool.length d))) := Lib.hid (fun W' hb => ⟨((Sp6.three_cells) (Z2.out.below hb (Nat.le_refl _))).1, ((Sp6.three_cells) (Z2.out.below hb (Nat.le_refl _))).2.1, ((Sp6.three_cells) (Z2.out.below hb (Nat.le_refl _))).2.2.1, ((Sp6.three_cells) (Z0.out.below hb (Nat.le_refl _))).1, ((Sp6.three_cells) (Z0.out.below hb (Nat.le_refl _))).2.1, ((Sp6.three_cells) (Z0.out.below hb (Nat.le_refl _))).2.2.1⟩)
    have DD : Hid (Below w9.heap.size w9 w9.drew) := Lib.hid (drew_blY (Below.refl _ _))
    have KX : Hid (MixR 0 w.heap.size w9.drew A x.seen.length c B x.pool.length d x) := RX.out
    go_region_held3 (fun w' => (w'.cell? ⟨w3.heap.size, 0, none⟩ = some (.int .i64 x.sec) ∧ w'.cell? ⟨w3.heap.size, 1, none⟩ = some (.slice A2 x.seen.length c2) ∧ w'.cell? ⟨w3.heap.size, 2, none⟩ = some (.slice B2 x.pool.length d2) ∧ w'.cell? ⟨w.heap.size, 0, none⟩ = some (.int .i64 x.sec) ∧ w'.cell? ⟨w.heap.size, 1, none⟩ = some (.slice A x.seen.length c) ∧ w'.cell? ⟨w.heap.size, 2, none⟩ = some (.slice B x.pool.length d)))
      (first | with_reducible exact HS.out _ DD.out | with_reducible exact HS.out _ b8 | with_reducible exact HS.out _ b9 | fail)
      (first
        | (go_at_call 19; refine (eqMix x _ _ _ _ _ _ _ _ _ _ _ _ _ _ _ (mx8.mix HM2.out) (ho8.mix hw8)).mono ?_; rintro e v14 ⟨rfl, hb9⟩; have b9 := belTr b8 hb9)
        | (go_at_call 17; refine (toMix x _ _ _ _ _ _ _ KX.out HN.out HM.out HH.out).mono ?_; rintro e v8 ⟨A8, c8, B8, d8, G8, rfl, ho8, hw8, hb8⟩; have b8 : Below w9.heap.size w9 v8 := belTr DD.out hb8; have mx8 := M2.out.below b8 (Nat.le_refl _))
        | fail)
    replace RX := Lib.hid (RX.out.below b9 (Nat.le_refl _))
    replace IA := Lib.hid (IA.out.below b9 (Nat.le_refl _))
    replace IB := Lib.hid (IB.out.below b9 (Nat.le_refl _))
    replace Z0 := Lib.hid (Z0.out.below b9 (Nat.le_refl _))
    replace ZA := Lib.hid (ZA.out.below b9 (Nat.le_refl _))
    replace ZS := Lib.hid (ZS.out.below b9 (Nat.le_refl _))
    replace RS := Lib.hid (RS.out.below b9 (Nat.le_refl _))
    replace M2 := Lib.hid (M2.out.below b9 (Nat.le_refl _))
    replace Z2 := Lib.hid (Z2.out.below b9 (Nat.le_refl _))
    replace LX := Lib.hid (LX.out.below b9 (Nat.le_refl _))
    replace ZX := Lib.hid (ZX.out.below b9 (Nat.le_refl _))
    replace MG := Lib.hid (MG.out.below b9 (Nat.le_refl _))
    replace ZG := Lib.hid (ZG.out.below b9 (Nat.le_refl _))
    replace BB := Lib.hid (BB.out.trans (b9.mono BB.out.size))
    have z14 := b9.size
    clear b9 b8 hb8 hb9 HS KX DD mx8 ho8 hw8
    go_upto_region 16 with (fail)
    have HS : Hid (∀ W', Below v14.heap.size v14 W' → (W'.cell? ⟨w5.heap.size, 0, none⟩ = some (.int .i64 p.el) ∧ W'.cell? ⟨w5.heap.size, 1, none⟩ = some (.slice AX p.hd.length cx) ∧ W'.cell? ⟨w5.heap.size, 2, none⟩ = some (.int .i64 p.tag) ∧ W'.cell? ⟨w5.heap.size, 3, none⟩ = some (.slice BX p.bd.length dx) ∧ W'.cell? ⟨w.heap.size + 1, 0, none⟩ = some (.int .i64 p.el) ∧ W'.cell? ⟨w.heap.size + 1, 1, none⟩ = some (.slice PA p.hd.length pc) ∧ W'.cell? ⟨w.heap.size + 1, 2, none⟩ = some (.int .i64 p.tag) ∧ W'.cell? ⟨w.heap.size + 1, 3, none⟩ = some (.slice PB p.bd.length pd))) := Lib.hid (fun W' hb => ⟨((four_cells) (ZX.out.below hb (Nat.le_refl _))).1, ((four_cells) (ZX.out.below hb (Nat.le_refl _))).2.1, ((four_cells) (ZX.out.below hb (Nat.le_refl _))).2.2.1, ((four_cells) (ZX.out.below hb (Nat.le_refl _))).2.2.2.1, ((four_cells) (ZA.out.below hb (Nat.le_refl _))).1, ((four_cells) (ZA.out.below hb (Nat.le_refl _))).2.1, ((four_cells) (ZA.out.below hb (Nat.le_refl _))).2.2.1, ((four_cells) (ZA.out.below hb (Nat.le_refl _))).2.2.2.1⟩)
    have DD : Hid (Below v14.heap.size v14 v14.drew) := Lib.hid (drew_blY (Below.refl _ _))
    have KA : Hid (Ints 0 w.heap.size v14.drew PA p.hd.length pc p.hd) := IA.out
    have KB : Hid (Ints 0 w.heap.size v14.drew PB p.bd.length pd p.bd) := IB.out
    go_region_held3 (fun w' => (w'.cell? ⟨w5.heap.size, 0, none⟩ = some (.int .i64 p.el) ∧ w'.cell? ⟨w5.heap.size, 1, none⟩ = some (.slice AX p.hd.length cx) ∧ w'.cell? ⟨w5.heap.size, 2, none⟩ = some (.int .i64 p.tag) ∧ w'.cell? ⟨w5.heap.size, 3, none⟩ = some (.slice BX p.bd.length dx) ∧ w'.cell? ⟨w.heap.size + 1, 0, none⟩ = some (.int .i64 p.el) ∧ w'.cell? ⟨w.heap.size + 1, 1, none⟩ = some (.slice PA p.hd.length pc) ∧ w'.cell? ⟨w.heap.size + 1, 2, none⟩ = some (.int .i64 p.tag) ∧ w'.cell? ⟨w.heap.size + 1, 3, none⟩ = some (.slice PB p.bd.length pd)))
      (first | with_reducible exact HS.out _ DD.out | with_reducible exact HS.out _ b8 | with_reducible exact HS.out _ b9 | fail)
      (first
        | (go_at_call 24; refine (eqPacket p _ _ _ _ _ _ _ _ _ _ _ _ _ _ _ _ _ lx8.hdr.ints lx8.bdy.ints hl8.hdr.ints hl8.bdy.ints).mono ?_; rintro e v16 ⟨rfl, hb9⟩; have b9 := belTr b8 hb9)
        | (go_at_call 22; refine (toPacket p _ _ _ _ _ _ _ _ _ KA.out KB.out hpn hpm).mono ?_; rintro e v8 ⟨A8, c8, B8, d8, b3, b4, rfl, hl8, hq8, hq9, hb8⟩; have b8 : Below v14.heap.size v14 v8 := belTr DD.out hb8; have lx8 := LX.out.below b8 (Nat.le_refl _))
        | fail)
    replace RX := Lib.hid (RX.out.below b9 (Nat.le_refl _))
    replace IA := Lib.hid (IA.out.below b9 (Nat.le_refl _))
    replace IB := Lib.hid (IB.out.below b9 (Nat.le_refl _))
    replace Z0 := Lib.hid (Z0.out.below b9 (Nat.le_refl _))
    replace ZA := Lib.hid (ZA.out.below b9 (Nat.le_refl _))
    replace ZS := Lib.hid (ZS.out.below b9 (Nat.le_refl _))
    replace RS := Lib.hid (RS.out.below b9 (Nat.le_refl _))
    replace M2 := Lib.hid (M2.out.below b9 (Nat.le_refl _))
    replace Z2 := Lib.hid (Z2.out.below b9 (Nat.le_refl _))
    replace LX := Lib.hid (LX.out.below b9 (Nat.le_refl _))
    replace ZX := Lib.hid (ZX.out.below b9 (Nat.le_refl _))
    replace MG := Lib.hid (MG.out.below b9 (Nat.le_refl _))
    replace ZG := Lib.hid (ZG.out.below b9 (Nat.le_refl _))
    replace BB := Lib.hid (BB.out.trans (b9.mono BB.out.size))
    have z16 := b9.size
    clear b9 b8 hb8 hb9 HS KA KB DD lx8 hl8 hq8 hq9
    obtain ⟨m0, m1, m2, mf⟩ := Sp6.three_cells Z2.out
    go_wp2_with fail
    ((with_reducible refine (Hlp8.markMix _ _ _ _ x _ 1 _ M2.out (by omega) (by omega) (by omega)).mono ?_); rintro e w10 ⟨rfl, hm, hk⟩)
    clear m0 m1 m2 mf
    replace RX := Lib.hid (RX.out.keptG hk HM2.out (by omega))
    replace IA := Lib.hid (ints_keptG IA.out hk HM2.out (by omega))
    replace IB := Lib.hid (ints_keptG IB.out hk HM2.out (by omega))
    replace Z0 := Lib.hid (blk_keptG Z0.out hk HM2.out (by omega))
    replace ZA := Lib.hid (blk_keptG ZA.out hk HM2.out (by omega))
    replace ZS := Lib.hid (blk_keptG ZS.out hk HM2.out (by omega))
    replace RS := Lib.hid (RS.out.keptG hk HM2.out (by omega))
    replace Z2 := Lib.hid (blk_keptG Z2.out hk HM2.out (by omega))
    replace LX := Lib.hid (lies_keptG LX.out hk HM2.out (by omega) (by omega))
    replace ZX := Lib.hid (blk_keptG ZX.out hk HM2.out (by omega))
    replace MG := Lib.hid (MG.out.keptG hk HM2.out HMG.out (by omega))
    replace ZG := Lib.hid (blk_keptG ZG.out hk HM2.out (by omega))
    have hBs := BB.out.size
    replace BB := Lib.hid (below_keptG BB.out hk HM2.out hBs (by omega))
    have z10 := hk.size
    clear hBs
    replace M2 := Lib.hid hm
    clear hm hk
    clear M2 Z2
    have hne := LX.out.2.2
    obtain ⟨q0, q1, q2, q3, qf⟩ := four_cells ZX.out
    go_wp2_with fail
    ((with_reducible refine (markPacketW _ _ _ _ _ _ _ _ _ _ _ _ (1 + (totalX x : Int)) _ LX.out.hdr LX.out.bdy hne (by omega) (by omega) (by omega) (by omega)).mono ?_); rintro e w11 ⟨rfl, mk1, mk2, hk2⟩)
    have hk := kept2_G hk2
    clear hk2 mk1 mk2 q0 q1 q2 q3 qf hne
    replace RX := Lib.hid (RX.out.keptG hk HLX.out (by omega))
    replace IA := Lib.hid (ints_keptG IA.out hk HLX.out (by omega))
    replace IB := Lib.hid (ints_keptG IB.out hk HLX.out (by omega))
    replace Z0 := Lib.hid (blk_keptG Z0.out hk HLX.out (by omega))
    replace ZA := Lib.hid (blk_keptG ZA.out hk HLX.out (by omega))
    replace ZS := Lib.hid (blk_keptG ZS.out hk HLX.out (by omega))
    replace RS := Lib.hid (RS.out.keptG hk HLX.out (by omega))
    replace ZX := Lib.hid (blk_keptG ZX.out hk HLX.out (by omega))
    replace MG := Lib.hid (MG.out.keptG hk HLX.out HMG.out (by omega))
    replace ZG := Lib.hid (blk_keptG ZG.out hk HLX.out (by omega))
    have hBs := BB.out.size
    replace BB := Lib.hid (below_keptG BB.out hk HLX.out hBs (by omega))
    have z11 := hk.size
    clear hBs
    clear hk
    clear ZX
    clear LX
    generalize hkk : 1 + (totalX x : Int) + (p.hd.length : Int) + (p.bd.length : Int) = kk
    have hk0 : 0 ≤ kk := by omega
    clear hkk
    obtain ⟨m0, m1, m2, mf⟩ := Sp6.three_cells ZG.out
    obtain ⟨s0, s1, s2, sf⟩ := Sp6.three_cells ZS.out
    go_wp2_with fail
    ((with_reducible refine (eqMix y _ _ _ _ _ _ _ _ _ _ _ _ _ _ _ (MG.out.mix HMG.out) RS.out).mono ?_); rintro e w12 ⟨rfl, hb⟩)
    replace RX := Lib.hid (RX.out.below hb (Nat.le_refl _))
    replace IA := Lib.hid (IA.out.below hb (Nat.le_refl _))
    replace IB := Lib.hid (IB.out.below hb (Nat.le_refl _))
    replace Z0 := Lib.hid (Z0.out.below hb (Nat.le_refl _))
    replace ZA := Lib.hid (ZA.out.below hb (Nat.le_refl _))
    replace ZS := Lib.hid (ZS.out.below hb (Nat.le_refl _))
    replace RS := Lib.hid (RS.out.below hb (Nat.le_refl _))
    replace MG := Lib.hid (MG.out.below hb (Nat.le_refl _))
    replace ZG := Lib.hid (ZG.out.below hb (Nat.le_refl _))
    replace BB := Lib.hid (BB.out.trans (hb.mono BB.out.size))
    have z12 := hb.size
    clear hb
    clear m0 m1 m2 mf s0 s1 s2 sf
    obtain ⟨m0, m1, m2, mf⟩ := Sp6.three_cells ZG.out
    go_wp2_with fail
    ((with_reducible refine (Hlp8.markMix _ _ _ _ y _ 1 _ MG.out (by omega) (by omega) (by omega)).mono ?_); rintro e w13 ⟨rfl, hm, hk⟩)
    clear m0 m1 m2 mf
    replace RX := Lib.hid (RX.out.keptG hk HMG.out (by omega))
    replace IA := Lib.hid (ints_keptG IA.out hk HMG.out (by omega))
    replace IB := Lib.hid (ints_keptG IB.out hk HMG.out (by omega))
    replace Z0 := Lib.hid (blk_keptG Z0.out hk HMG.out (by omega))
    replace ZA := Lib.hid (blk_keptG ZA.out hk HMG.out (by omega))
    replace ZS := Lib.hid (blk_keptG ZS.out hk HMG.out (by omega))
    replace RS := Lib.hid (RS.out.keptG hk HMG.out (by omega))
    replace ZG := Lib.hid (blk_keptG ZG.out hk HMG.out (by omega))
    have hBs := BB.out.size
    replace BB := Lib.hid (below_keptG BB.out hk HMG.out hBs (by omega))
    have z13 := hk.size
    clear hBs
    replace MG := Lib.hid hm
    clear hm hk
    obtain ⟨m0, m1, m2, mf⟩ := Sp6.three_cells ZG.out
    go_wp2_with fail
    ((with_reducible refine (heldMix _ _ _ _ _ _ y 1 _ (MG.out.mix HMG.out) (by omega) (by omega) (by omega)).mono ?_); rintro e w14 ⟨rfl, hb⟩)
    replace RX := Lib.hid (RX.out.below hb (Nat.le_refl _))
    replace IA := Lib.hid (IA.out.below hb (Nat.le_refl _))
    replace IB := Lib.hid (IB.out.below hb (Nat.le_refl _))
    replace Z0 := Lib.hid (Z0.out.below hb (Nat.le_refl _))
    replace ZA := Lib.hid (ZA.out.below hb (Nat.le_refl _))
    replace ZS := Lib.hid (ZS.out.below hb (Nat.le_refl _))
    replace RS := Lib.hid (RS.out.below hb (Nat.le_refl _))
    replace MG := Lib.hid (MG.out.below hb (Nat.le_refl _))
    replace ZG := Lib.hid (ZG.out.below hb (Nat.le_refl _))
    replace BB := Lib.hid (BB.out.trans (hb.mono BB.out.size))
    have z14 := hb.size
    clear hb
    clear m0 m1 m2 mf
    go_upto_region 31 with (fail)
    have HS : Hid (∀ W', Below w14.heap.size w14 W' → (W'.cell? ⟨w.heap.size, 0, none⟩ = some (.int .i64 x.sec) ∧ W'.cell? ⟨w.heap.size, 1, none⟩ = some (.slice A x.seen.length c) ∧ W'.cell? ⟨w.heap.size, 2, none⟩ = some (.slice B x.pool.length d) ∧ W'.cell? ⟨w.heap.size + 1, 0, none⟩ = some (.int .i64 p.el) ∧ W'.cell? ⟨w.heap.size + 1, 1, none⟩ = some (.slice PA p.hd.length pc) ∧ W'.cell? ⟨w.heap.size + 1, 2, none⟩ = some (.int .i64 p.tag) ∧ W'.cell? ⟨w.heap.size + 1, 3, none⟩ = some (.slice PB p.bd.length pd))) := Lib.hid (fun W' hb => ⟨((Sp6.three_cells) (Z0.out.below hb (Nat.le_refl _))).1, ((Sp6.three_cells) (Z0.out.below hb (Nat.le_refl _))).2.1, ((Sp6.three_cells) (Z0.out.below hb (Nat.le_refl _))).2.2.1, ((four_cells) (ZA.out.below hb (Nat.le_refl _))).1, ((four_cells) (ZA.out.below hb (Nat.le_refl _))).2.1, ((four_cells) (ZA.out.below hb (Nat.le_refl _))).2.2.1, ((four_cells) (ZA.out.below hb (Nat.le_refl _))).2.2.2.1⟩)
    have DD : Hid (Below w14.heap.size w14 w14.drew) := Lib.hid (drew_blY (Below.refl _ _))
    have DZ : Hid (Below w14.heap.size w14 (w14.alloc (.cells #[.int .i64 0, .slice none 0 0, .slice none 0 0] 26)).drew) := Lib.hid (drew_blY (belAl (Below.refl _ _)))
    have KX : Hid (∀ W', Below w14.heap.size w14 W' → MixR 0 w.heap.size W' A x.seen.length c B x.pool.length d x) := Lib.hid (fun W' hb => RX.out.below hb (Nat.le_refl _))
    have KA : Hid (∀ W', Below w14.heap.size w14 W' → Ints 0 w.heap.size W' PA p.hd.length pc p.hd) := Lib.hid (fun W' hb => IA.out.below hb (Nat.le_refl _))
    have KB : Hid (∀ W', Below w14.heap.size w14 W' → Ints 0 w.heap.size W' PB p.bd.length pd p.bd) := Lib.hid (fun W' hb => IB.out.below hb (Nat.le_refl _))
    go_cut [15, 16] (fun sa sb wx => ∃ (g : Nat) (A5 : Option Addr) (c5 : Nat) (B5 : Option Addr) (d5 : Nat), sa = .pointer (some ⟨g, 0, none⟩) ∧ sb = .int .i64 cd ∧ MidM w14 wx g y A5 c5 B5 d5)
    case first =>
      go_region_held3 (fun w' => (w'.cell? ⟨w.heap.size, 0, none⟩ = some (.int .i64 x.sec) ∧ w'.cell? ⟨w.heap.size, 1, none⟩ = some (.slice A x.seen.length c) ∧ w'.cell? ⟨w.heap.size, 2, none⟩ = some (.slice B x.pool.length d) ∧ w'.cell? ⟨w.heap.size + 1, 0, none⟩ = some (.int .i64 p.el) ∧ w'.cell? ⟨w.heap.size + 1, 1, none⟩ = some (.slice PA p.hd.length pc) ∧ w'.cell? ⟨w.heap.size + 1, 2, none⟩ = some (.int .i64 p.tag) ∧ w'.cell? ⟨w.heap.size + 1, 3, none⟩ = some (.slice PB p.bd.length pd)))
        (first | with_reducible exact HS.out _ DD.out | with_reducible exact HS.out _ DZ.out | with_reducible exact HS.out _ b8 | with_reducible exact HS.out _ (belAl b8) | with_reducible exact HS.out _ b9 | with_reducible exact HS.out _ (belAl b9) | with_reducible exact HS.out _ bF | with_reducible exact HS.out _ (belAl bF) | with_reducible exact HS.out _ HG.out.bel | fail)
        (first
          | (go_at_call 23; (first | with_reducible refine (mtake_i x y p cd _ _ _ _ _ _ _ _ _ _ _ _ _ _ _ HNX.out mx9 i9 j9).mono ?_ | with_reducible refine (mtake_i x y p cd _ _ _ _ _ _ _ _ _ _ _ _ _ _ _ HNX.out mx9z i9z j9z).mono ?_); rintro e vF ⟨AF, cF, BF, dF, GF, rfl, hoF, hwF, hbF⟩; have hrF := hoF.mix hwF; (first | with_reducible have kF : Below v9.heap.size v9 vF := hbF | with_reducible have kF : Below v9.heap.size v9 vF := belTr al9 hbF); have bF := belTr b9 kF; (first | (have zbF := zb_old zb9 hbF; obtain ⟨z0, z1, z2, zf⟩ := zb_cells zbF; have HG := Lib.hid (zb_mid bF hrF zbF)) | (have zbF := zb_new b9 hbF; obtain ⟨z0, z1, z2, zf⟩ := zb_cells zbF; have HG := Lib.hid (zb_mid bF hrF zbF)) | have HG := Lib.hid (midm_new bF hrF)))
          | (go_at_call 22; (first | with_reducible refine (toPacket p _ _ _ _ _ _ _ _ _ (KA.out _ b8) (KB.out _ b8) hpn hpm).mono ?_ | with_reducible refine (toPacket p _ _ _ _ _ _ _ _ _ (KA.out _ (belAl b8)) (KB.out _ (belAl b8)) hpn hpm).mono ?_); rintro e v9 ⟨A9, c9, B9, d9, b19, b29, rfl, hl9, hq19, hq29, hb9⟩; (first | with_reducible have k9 : Below v8.heap.size v8 v9 := hb9 | with_reducible have k9 : Below v8.heap.size v8 v9 := belTr (belAl (Below.refl _ _)) hb9); have b9 := belTr b8 k9; have mx9 := (ho8.below k9 (Nat.le_refl _)).mix hw8; have i9 := hl9.hdr.ints; have j9 := hl9.bdy.ints; have al9 : Below v9.heap.size v9 (v9.alloc (.cells #[.int .i64 0, .slice none 0 0, .slice none 0 0] 26)) := belAl (Below.refl _ _); have mx9z := mx9.below al9 (Nat.le_refl _); have i9z := i9.below al9 (Nat.le_refl _); have j9z := j9.below al9 (Nat.le_refl _); (first | have zb9 := zb_old zb8 hb9 | have zb9 := zb_new b8 hb9 | skip))
          | (go_at_call 17; (first | with_reducible refine (toMix x _ _ _ _ _ _ _ (KX.out _ DD.out) HN.out HM.out HH.out).mono ?_ | with_reducible refine (toMix x _ _ _ _ _ _ _ (KX.out _ DZ.out) HN.out HM.out HH.out).mono ?_); rintro e v8 ⟨A8, c8, B8, d8, G8, rfl, ho8, hw8, hb8⟩; (first | with_reducible have b8 : Below w14.heap.size w14 v8 := belTr DD.out hb8 | with_reducible have b8 : Below w14.heap.size w14 v8 := belTr DZ.out hb8); (first | have zb8 := zb_newD (Below.refl _ _) hb8 | skip))
          | fail)
      all_goals
        go_wp2_with fail
        go_meet
        case rel => exact ⟨_, _, _, _, _, rfl, rfl, HG.out⟩
    case rest =>
      obtain ⟨gJ, AJ, cJ, BJ, dJ, rfl, rfl, hmid⟩ := hcut
      revert hmid
      generalize wc = wJ
      intro hmid
      have hbq := hmid.bel
      obtain ⟨_, hzz, hg1J, hg2J, hrr⟩ := hmid
      replace RX := Lib.hid (RX.out.below hbq (Nat.le_refl _))
      replace IA := Lib.hid (IA.out.below hbq (Nat.le_refl _))
      replace IB := Lib.hid (IB.out.below hbq (Nat.le_refl _))
      replace Z0 := Lib.hid (Z0.out.below hbq (Nat.le_refl _))
      replace ZA := Lib.hid (ZA.out.below hbq (Nat.le_refl _))
      replace ZS := Lib.hid (ZS.out.below hbq (Nat.le_refl _))
      replace RS := Lib.hid (RS.out.below hbq (Nat.le_refl _))
      replace MG := Lib.hid (MG.out.below hbq (Nat.le_refl _))
      replace ZG := Lib.hid (ZG.out.below hbq (Nat.le_refl _))
      replace BB := Lib.hid (BB.out.trans (hbq.mono BB.out.size))
      have ZJ := Lib.hid hzz
      have RJ := Lib.hid hrr
      have zJq := hbq.size
      clear hzz hrr hbq HS DD DZ KX KA KB
      obtain ⟨m0, m1, m2, mf⟩ := Sp6.three_cells ZJ.out
      obtain ⟨s0, s1, s2, sf⟩ := Sp6.three_cells ZS.out
      go_wp2_with fail
      ((with_reducible refine (eqMix y _ _ _ _ _ _ _ _ _ _ _ _ _ _ _ RJ.out RS.out).mono ?_); rintro e w15 ⟨rfl, hb⟩)
      replace RX := Lib.hid (RX.out.below hb (Nat.le_refl _))
      replace IA := Lib.hid (IA.out.below hb (Nat.le_refl _))
      replace IB := Lib.hid (IB.out.below hb (Nat.le_refl _))
      replace Z0 := Lib.hid (Z0.out.below hb (Nat.le_refl _))
      replace ZA := Lib.hid (ZA.out.below hb (Nat.le_refl _))
      replace ZS := Lib.hid (ZS.out.below hb (Nat.le_refl _))
      replace RS := Lib.hid (RS.out.below hb (Nat.le_refl _))
      replace MG := Lib.hid (MG.out.below hb (Nat.le_refl _))
      replace ZG := Lib.hid (ZG.out.below hb (Nat.le_refl _))
      replace ZJ := Lib.hid (ZJ.out.below hb (Nat.le_refl _))
      replace RJ := Lib.hid (RJ.out.below hb (Nat.le_refl _))
      replace BB := Lib.hid (BB.out.trans (hb.mono BB.out.size))
      have z15 := hb.size
      clear hb
      clear m0 m1 m2 mf s0 s1 s2 sf
      obtain ⟨m0, m1, m2, mf⟩ := Sp6.three_cells ZG.out
      go_wp2_with fail
      ((with_reducible refine (heldMix _ _ _ _ _ _ y 1 _ (MG.out.mix HMG.out) (by omega) (by omega) (by omega)).mono ?_); rintro e w16 ⟨rfl, hb⟩)
      replace RX := Lib.hid (RX.out.below hb (Nat.le_refl _))
      replace IA := Lib.hid (IA.out.below hb (Nat.le_refl _))
      replace IB := Lib.hid (IB.out.below hb (Nat.le_refl _))
      replace Z0 := Lib.hid (Z0.out.below hb (Nat.le_refl _))
      replace ZA := Lib.hid (ZA.out.below hb (Nat.le_refl _))
      replace ZS := Lib.hid (ZS.out.below hb (Nat.le_refl _))
      replace RS := Lib.hid (RS.out.below hb (Nat.le_refl _))
      replace MG := Lib.hid (MG.out.below hb (Nat.le_refl _))
      replace ZG := Lib.hid (ZG.out.below hb (Nat.le_refl _))
      replace ZJ := Lib.hid (ZJ.out.below hb (Nat.le_refl _))
      replace RJ := Lib.hid (RJ.out.below hb (Nat.le_refl _))
      replace BB := Lib.hid (BB.out.trans (hb.mono BB.out.size))
      have z16 := hb.size
      clear hb
      clear m0 m1 m2 mf
      go_wp2
      go_ret
      exact ⟨rfl, BB.out⟩

end Law6w
end Go.Proofs.Ytnjcpbkpcmemeac
