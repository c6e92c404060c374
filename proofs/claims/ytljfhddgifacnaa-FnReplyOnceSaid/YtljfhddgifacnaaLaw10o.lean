/-
  The law of chapter 22 on blocks that are used twice, by the contracts of the functions that it calls: it returns true and writes nothing that was there.
-/
import Derived.Test.YtljfhddgifacnaaSp10
import Derived.Test.YtljfhddgifacnaaIm10b
import Derived.Test.YtljfhddgifacnaaDr10
import Derived.Test.YtljfhddgifacnaaH10
import Derived.Test.YtljfhddgifacnaaSec
import Derived.Test.YtljfhddgifacnaaIm6c
import Derived.Deep.QuietTactic
import Derived.BigQuiet
namespace Go.Proofs.Ytljfhddgifacnaa
open Go.RowKit
namespace Law10o
open Gm Mm Tm Lm Pm Po Pq Il Rd Hlp5 LawB Sec Rm Cl Rp Sl Mm6 Sp6

theorem bdr {B : Nat} {w w' : World} (h : Below B w w') : Below B w w'.drew := ⟨h.os, h.tape, h.output, h.size, h.block⟩
theorem rep_is {x r f : Int} {ps ns : List Int} {p : Pkt} (h : makeOk x ps ns r [] = true) (hp : repF x ps ns r = p) (hf : fstF x ps ns r = f) : p.bd = keysF x ps ∧ f = ns.getD 0 0 ∧ p.el = mulG x 5 ∧ p.el = (makeF x ps ns r []).el ∧ p.hd = (makeF x ps ns r []).hd ∧ p.tag = (makeF x ps ns r []).tag := by
  subst hp
  subst hf
  rw [repF_yes h, fstF_yes h]
  exact ⟨rfl, rfl, (make_valid h).2, rfl, rfl, rfl⟩
theorem same_bv {f el tag : Int} {n n2 c c2 l1 h1 l2 h2 : Nat} {A A2 : Option Addr} {hd : List Int} {w : World} (i1 : Ints l1 h1 w A n c hd) (i2 : Ints l2 h2 w A2 n2 c2 hd) :
    Calls Try.prog 16 #[.agg #[.int .i64 f, .int .i64 el, .slice A n c, .int .i64 tag], .agg #[.int .i64 f, .int .i64 el, .slice A2 n2 c2, .int .i64 tag]] w (BoolB true w) := H10.sameBlock f el tag hd A A2 n n2 c c2 l1 h1 l2 h2 w i1 i2
theorem pubL_ok (s : Int) {k : Nat} (h1 : 1 ≤ k) (h3 : k ≤ 3) : pubsOk (pubL s k) = true := by
  unfold pubsOk
  have ha : (pubL s k).all inG = true := by
    rw [List.all_eq_true]
    intro x hx
    unfold pubL at hx
    obtain ⟨y, hy, rfl⟩ := List.mem_map.1 hx
    exact mulG_pos (secL_in s k y hy) (by decide)
  rw [ha, pubL_len]
  simp
  omega
theorem rep_ok {x r : Int} {ps ns : List Int} (s : Int) (h : makeOk x ps ns r [] = true) : makeOk x (pubL s ns.length) ns r [] = true ∧ 1 ≤ ns.length ∧ ns.length ≤ 3 := by
  obtain ⟨q1, q2, q3, q4, q5, q6⟩ := makeOk_iff.1 h
  obtain ⟨_, h1, h3⟩ := pubs_all q3
  exact ⟨makeOk_iff.2 ⟨q1, q2, pubL_ok s (by omega) (by omega), (pubL_len s ns.length).symm, q5, q6⟩, by omega, by omega⟩
theorem ints_lit2 (w : World) (x y : Int) : Ints w.heap.size (w.heap.size + 1) (w.alloc (.cells #[.int .i64 x, .int .i64 y] 3)) (some ⟨w.heap.size, 0, none⟩) 2 2 [x, y] := by
  have hh : (w.alloc (.cells #[.int .i64 x, .int .i64 y] 3)).heap[w.heap.size]? = some (.cells #[.int .i64 x, .int .i64 y] 3 (0, 0)) := heap_alloc_new _ _
  refine ⟨rfl, Nat.le_refl _, by unfold maxLen; omega, fun _ => ⟨_, 0, rfl, Nat.le_refl _, by omega, by simp, fun j hj => ?_⟩⟩
  rw [Nat.zero_add, cell_of_row _ _ j _ _ _ hh]
  obtain rfl | rfl : j = 0 ∨ j = 1 := by omega
  all_goals rfl
theorem ints_lit1g (w : World) (x : Int) {g : Nat} (hg : w.heap.size = g) : Ints g (g + 1) (w.alloc (.cells #[.int .i64 x] 3)) (some ⟨g, 0, none⟩) 1 1 [x] := by
  subst hg
  exact ints_lit1 w x
theorem ints_lit2g (w : World) (x y : Int) {g : Nat} (hg : w.heap.size = g) : Ints g (g + 1) (w.alloc (.cells #[.int .i64 x, .int .i64 y] 3)) (some ⟨g, 0, none⟩) 2 2 [x, y] := by
  subst hg
  exact ints_lit2 w x y
theorem fill_q {f el tag : Int} {hd ls : List Int} {q : Pkt} {A B : Option Addr} {n c m d l1 h1 l2 h2 : Nat} {w : World} (h : fillOk f el hd tag ls = true ∧ fillR f el hd tag ls = q) (i1 : Ints l1 h1 w A n c hd) (hn : n ≤ 2000000) (i2 : Ints l2 h2 w B m d ls) :
    Calls Try.prog 21 #[.agg #[.int .i64 f, .int .i64 el, .slice A n c, .int .i64 tag], .slice B m d] w (PktPost q true w) := by
  have := Im10.ReplyFill f el tag hd ls A B n c m d l1 h1 l2 h2 w i1 hn i2
  rwa [h.1, h.2] at this
theorem repX {ps ns : List Int} {x r f : Int} {p : Pkt} {A B : Option Addr} {n c m d l1 h1 l2 h2 : Nat} {w : World} (h : makeOk x ps ns r [] = true ∧ repF x ps ns r = p ∧ fstF x ps ns r = f) (i1 : Ints l1 h1 w A n c ps) (i2 : Ints l2 h2 w B m d ns) :
    Calls Try.prog 14 #[.int .i64 x, .slice A n c, .slice B m d, .int .i64 r] w (RepPost f p true w) := by
  have := Im10.ReplyMake ps ns x r A B n c m d l1 h1 l2 h2 w i1 i2
  rwa [h.1, h.2.1, h.2.2] at this

theorem rep_len (x r : Int) (ps ns : List Int) : (repF x ps ns r).hd.length ≤ 9 := by
  cases h : makeOk x ps ns r []
  · rw [repF_no h]; exact Nat.zero_le _
  · rw [repF_yes h]
    have := (pktOk_iff.1 (make_valid h).1).2.2.1
    exact Nat.le_of_eq this
/-- The first mix peels a packet of the path, around any body. -/
theorem first_peel {x r : Int} {ns b : List Int} (s : Int) (q2 : inG x = true) (q5 : ∀ y ∈ ns, inName y = true) (q6 : inName r = true) (hb : okL b = true) (hb6 : b.length = 6) (h1 : 1 ≤ ns.length) (h3 : ns.length ≤ 3) :
    inG ((secL s ns.length).getD 0 0) = true ∧ peelOk ((secL s ns.length).getD 0 0) (pkt x (pubL s ns.length) ns r (fillF (keysF x (pubL s ns.length))) b) = true := by
  have he : ∀ i : Int, inG (1 + (s * 29 + i * 101 + 3) % 996) = true := fun i => inG_iff.2 (by omega)
  have g0 := he ((0 : Nat) : Int)
  match ns, h1, h3 with
  | [a], _, _ =>
    have hs : secL s [a].length = [1 + (s * 29 + ((0 : Nat) : Int) * 101 + 3) % 996] := rfl
    have hp : pubL s [a].length = [mulG (1 + (s * 29 + ((0 : Nat) : Int) * 101 + 3) % 996) 5] := rfl
    rw [hs, hp]
    clear hs hp
    generalize 1 + (s * 29 + ((0 : Nat) : Int) * 101 + 3) % 996 = e0 at *
    exact ⟨g0, (step_last (pre := []) (names := [a]) q2 g0 (by simp) rfl q6 hb hb6).1⟩
  | [a, a2], _, _ =>
    have hs : secL s [a, a2].length = [1 + (s * 29 + ((0 : Nat) : Int) * 101 + 3) % 996, 1 + (s * 29 + ((1 : Nat) : Int) * 101 + 3) % 996] := rfl
    have hp : pubL s [a, a2].length = [mulG (1 + (s * 29 + ((0 : Nat) : Int) * 101 + 3) % 996) 5, mulG (1 + (s * 29 + ((1 : Nat) : Int) * 101 + 3) % 996) 5] := rfl
    rw [hs, hp]
    clear hs hp
    generalize 1 + (s * 29 + ((0 : Nat) : Int) * 101 + 3) % 996 = e0 at *
    generalize 1 + (s * 29 + ((1 : Nat) : Int) * 101 + 3) % 996 = e1 at *
    exact ⟨g0, (step_next (pre := []) («as» := []) (a2 := e1) (names := [a, a2]) q2 g0 (by simp) rfl (q5 a2 (by simp)) hb hb6).1⟩
  | [a, a2, a3], _, _ =>
    have hs : secL s [a, a2, a3].length = [1 + (s * 29 + ((0 : Nat) : Int) * 101 + 3) % 996, 1 + (s * 29 + ((1 : Nat) : Int) * 101 + 3) % 996, 1 + (s * 29 + ((2 : Nat) : Int) * 101 + 3) % 996] := rfl
    have hp : pubL s [a, a2, a3].length = [mulG (1 + (s * 29 + ((0 : Nat) : Int) * 101 + 3) % 996) 5, mulG (1 + (s * 29 + ((1 : Nat) : Int) * 101 + 3) % 996) 5, mulG (1 + (s * 29 + ((2 : Nat) : Int) * 101 + 3) % 996) 5] := rfl
    rw [hs, hp]
    clear hs hp
    generalize 1 + (s * 29 + ((0 : Nat) : Int) * 101 + 3) % 996 = e0 at *
    generalize 1 + (s * 29 + ((1 : Nat) : Int) * 101 + 3) % 996 = e1 at *
    generalize 1 + (s * 29 + ((2 : Nat) : Int) * 101 + 3) % 996 = e2 at *
    exact ⟨g0, (step_next (pre := []) («as» := [e2]) (a2 := e1) (names := [a, a2, a3]) q2 g0 (by simp) rfl (q5 a2 (by simp)) hb hb6).1⟩
/-- Both replies of a block: the first is taken, the second is a replay. -/
theorem once_all {x r : Int} {ns : List Int} (s : Int) (h : makeOk x (pubL s ns.length) ns r [] = true) (h1 : 1 ≤ ns.length) (h3 : ns.length ≤ 3) :
    ∃ (a : Int) (q1 q2 : Pkt) (y : Mx), (secL s ns.length).getD 0 0 = a ∧ inG a = true ∧
      (fillOk (fstF x (pubL s ns.length) ns r) (repF x (pubL s ns.length) ns r).el (repF x (pubL s ns.length) ns r).hd (repF x (pubL s ns.length) ns r).tag [1] = true ∧
        fillR (fstF x (pubL s ns.length) ns r) (repF x (pubL s ns.length) ns r).el (repF x (pubL s ns.length) ns r).hd (repF x (pubL s ns.length) ns r).tag [1] = q1) ∧
      (fillOk (fstF x (pubL s ns.length) ns r) (repF x (pubL s ns.length) ns r).el (repF x (pubL s ns.length) ns r).hd (repF x (pubL s ns.length) ns r).tag [2, 3] = true ∧
        fillR (fstF x (pubL s ns.length) ns r) (repF x (pubL s ns.length) ns r).el (repF x (pubL s ns.length) ns r).hd (repF x (pubL s ns.length) ns r).tag [2, 3] = q2) ∧
      (mtakeM ⟨a, [], []⟩ q1 = y ∧ mtakeC ⟨a, [], []⟩ q1 = 0) ∧ mtakeC y q2 = 1 := by
  obtain ⟨q1, q2, q3, q4, q5, q6⟩ := makeOk_iff.1 h
  have hl1 : packOk [1] = true := pack_small [1] (by intro y hy; simp at hy; omega) (by simp)
  have hl2 : packOk [2, 3] = true := pack_small [2, 3] (by intro y hy; simp at hy; omega) (by simp)
  obtain ⟨f1, f2⟩ := fill_pkt h hl1
  obtain ⟨k1, k2⟩ := fill_pkt h hl2
  have len6 : ∀ {ls : List Int}, packOk ls = true → (offsF (packL ls) (keysF x (pubL s ns.length))).length = 6 := fun hl => by rw [offs_len, packL_len (packOk_iff.1 hl).2]
  obtain ⟨ga, p1⟩ := first_peel (x := x) (r := r) (ns := ns) s q2 q5 q6 (offs_ok (keysF x (pubL s ns.length)) _ (packL_ok hl1)) (len6 hl1) h1 h3
  obtain ⟨_, p2⟩ := first_peel (x := x) (r := r) (ns := ns) s q2 q5 q6 (offs_ok (keysF x (pubL s ns.length)) _ (packL_ok hl2)) (len6 hl2) h1 h3
  have hm : mixOk ⟨(secL s ns.length).getD 0 0, [], []⟩ = true := mixOk_iff.2 ⟨ga, rfl, by simp, rfl, by simp⟩
  have v1 := (peelOk_iff.1 p1).2.1
  have v2 := (peelOk_iff.1 p2).2.1
  obtain ⟨t1, t2⟩ := mtake_yes hm v1
  have hc : takeC ⟨(secL s ns.length).getD 0 0, [], []⟩ (pkt x (pubL s ns.length) ns r (fillF (keysF x (pubL s ns.length))) (offsF (packL [1]) (keysF x (pubL s ns.length)))) = 0 := takeC_done p1 rfl (by simp)
  have hM := t2.trans (takeM_yes hc)
  have hok := take_ok hm v1
  rw [takeM_yes hc] at hok
  refine ⟨_, _, _, _, rfl, ga, ⟨f1, f2⟩, ⟨k1, k2⟩, ⟨hM, t1.trans hc⟩, ?_⟩
  rw [(mtake_yes hok v2).1]
  exact takeC_replay p2 (by rw [has_iff]; exact List.mem_append.2 (.inr (List.mem_singleton.2 rfl)))
theorem mixN {a : Int} {w : World} (h : inG a = true) : Calls Try.prog 34 #[.int .i64 a] w (MixB ⟨a, [], []⟩ (.bool true) w) := by
  have := Im6.MixNew a w
  rw [show newM a = ⟨a, [], []⟩ by unfold newM; rw [h]; rfl, h] at this
  exact this
theorem takeY {x y : Mx} {p : Pkt} {cd : Int} {A B A2 B2 : Option Addr} {c d c2 d2 lo hi l1 h1 l2 h2 : Nat} {w : World} (h : mtakeM x p = y ∧ mtakeC x p = cd) (hx : MixR lo hi w A x.seen.length c B x.pool.length d x) (i1 : Ints l1 h1 w A2 p.hd.length c2 p.hd) (i2 : Ints l2 h2 w B2 p.bd.length d2 p.bd) :
    Calls Try.prog 35 #[.agg #[.int .i64 x.sec, .slice A x.seen.length c, .slice B x.pool.length d], .agg #[.int .i64 p.el, .slice A2 p.hd.length c2, .int .i64 p.tag, .slice B2 p.bd.length d2]] w (MixB y (.int .i64 cd) w) := by
  obtain ⟨rfl, rfl⟩ := h
  exact Im6.MixTake x p A B A2 B2 c d c2 d2 lo hi l1 h1 l2 h2 w hx i1 i2
theorem take0 {a : Int} {y : Mx} {p : Pkt} {cd : Int} {A B A2 B2 : Option Addr} {c d c2 d2 lo hi l1 h1 l2 h2 : Nat} {w : World} (h : mtakeM ⟨a, [], []⟩ p = y ∧ mtakeC ⟨a, [], []⟩ p = cd) (hx : MixR lo hi w A 0 c B 0 d ⟨a, [], []⟩) (i1 : Ints l1 h1 w A2 p.hd.length c2 p.hd) (i2 : Ints l2 h2 w B2 p.bd.length d2 p.bd) :
    Calls Try.prog 35 #[.agg #[.int .i64 a, .slice A 0 c, .slice B 0 d], .agg #[.int .i64 p.el, .slice A2 p.hd.length c2, .int .i64 p.tag, .slice B2 p.bd.length d2]] w (MixB y (.int .i64 cd) w) :=
  takeY (x := ⟨a, [], []⟩) h hx i1 i2

set_option maxRecDepth 20000 in
set_option maxHeartbeats 2000000 in
theorem fnReplyOnce (A : Option Addr) (n c : Nat) (A1 : Option Addr) (n1 c1 : Nat) (w : World) (h : CodeIs w A n c) :
    Calls Try.prog 8 #[.slice A n c, .slice A1 n1 c1] w (TruePost w) := by
  have HC := Lib.hid h
  clear h
  by_cases hn : 1048576 < n
  · go_enter Try.func8, Try.ntmps8
    go_wp2
    go_ret
    exact ⟨rfl, Below.refl _ _⟩
  by_cases hn1 : 1048576 < n1
  · go_enter Try.func8, Try.ntmps8
    go_wp2
    go_ret
    exact ⟨rfl, Below.refl _ _⟩
  have B : Hid (Below w.heap.size w w) := Below.refl _ _
  go_enter Try.func8, Try.ntmps8
  have hq : n ≤ 1048576 := by omega
  go_wp2_with fail
  ((with_reducible refine (DrawReplyMake _ _ _ _ HC.out).mono ?_); rintro e w1 ⟨x, r, AP, AN, cp, cn, ps, ns, rfl, hx, hl1, hl2, i1, i2, hb⟩)
  replace B := Lib.hid (B.out.trans (hb.mono B.out.size))
  have z1 := hb.size
  have IP := Lib.hid i1
  have IN := Lib.hid i2
  clear i1 i2 hb
  go_wp2_with fail
  ((with_reducible refine (Im10.ReplyMake ps ns x r _ _ _ _ _ _ _ _ _ _ _ IP.out IN.out).mono ?_); rintro e w2 ⟨AM, cm, BM, dm, g1, g2, rfl, hlie, hg1, hg2, hb⟩)
  replace IP := Lib.hid (IP.out.below hb (Nat.le_refl _))
  replace IN := Lib.hid (IN.out.below hb (Nat.le_refl _))
  replace B := Lib.hid (B.out.trans (hb.mono B.out.size))
  have z2 := hb.size
  have LM := Lib.hid hlie
  clear hlie hb
  generalize hpe : repF x ps ns r = p at *
  generalize hfe : fstF x ps ns r = f at *
  have hal : Below w2.heap.size w2 (w2.alloc (.cells #[.int .i64 f, .int .i64 p.el, .slice AM p.hd.length cm, .int .i64 p.tag] 27)) := (Below.refl _ _).alloc (Nat.le_refl _) _
  have hzz : Blk (w2.alloc (.cells #[.int .i64 f, .int .i64 p.el, .slice AM p.hd.length cm, .int .i64 p.tag] 27)) w2.heap.size #[.int .i64 f, .int .i64 p.el, .slice AM p.hd.length cm, .int .i64 p.tag] 27 := heap_alloc_new _ _
  replace IP := Lib.hid (IP.out.below hal (Nat.le_refl _))
  replace IN := Lib.hid (IN.out.below hal (Nat.le_refl _))
  replace LM := Lib.hid (LM.out.below hal (Nat.le_refl _))
  replace B := Lib.hid (B.out.trans (hal.mono B.out.size))
  have ZM := Lib.hid hzz
  clear hzz
  clear hal
  have hzM : w2.heap.size < (w2.alloc (.cells #[.int .i64 f, .int .i64 p.el, .slice AM p.hd.length cm, .int .i64 p.tag] 27)).heap.size := by simp
  go_wp2_with fail
  ((with_reducible refine (Sp10.ReplyMake ps ns x r _ _ _ _ _ _ _ _ _ _ _ IP.out IN.out).mono ?_); rintro e w4 ⟨AS, cs, BS, ds, g3, g4, rfl, hlie, hg3, hg4, hb⟩)
  replace IP := Lib.hid (IP.out.below hb (Nat.le_refl _))
  replace IN := Lib.hid (IN.out.below hb (Nat.le_refl _))
  replace LM := Lib.hid (LM.out.below hb (Nat.le_refl _))
  replace ZM := Lib.hid (ZM.out.below hb (Nat.le_refl _))
  replace B := Lib.hid (B.out.trans (hb.mono B.out.size))
  have z4 := hb.size
  have LS := Lib.hid hlie
  clear hlie hb
  rw [hpe] at LS ⊢
  rw [hfe]
  have HPE := Lib.hid hpe
  have HFE := Lib.hid hfe
  clear hpe hfe
  have hal : Below w4.heap.size w4 (w4.alloc (.cells #[.int .i64 f, .int .i64 p.el, .slice AS p.hd.length cs, .int .i64 p.tag] 27)) := (Below.refl _ _).alloc (Nat.le_refl _) _
  have hzz : Blk (w4.alloc (.cells #[.int .i64 f, .int .i64 p.el, .slice AS p.hd.length cs, .int .i64 p.tag] 27)) w4.heap.size #[.int .i64 f, .int .i64 p.el, .slice AS p.hd.length cs, .int .i64 p.tag] 27 := heap_alloc_new _ _
  replace IP := Lib.hid (IP.out.below hal (Nat.le_refl _))
  replace IN := Lib.hid (IN.out.below hal (Nat.le_refl _))
  replace LM := Lib.hid (LM.out.below hal (Nat.le_refl _))
  replace ZM := Lib.hid (ZM.out.below hal (Nat.le_refl _))
  replace LS := Lib.hid (LS.out.below hal (Nat.le_refl _))
  replace B := Lib.hid (B.out.trans (hal.mono B.out.size))
  have ZS := Lib.hid hzz
  clear hzz
  clear hal
  have hzS : w4.heap.size < (w4.alloc (.cells #[.int .i64 f, .int .i64 p.el, .slice AS p.hd.length cs, .int .i64 p.tag] 27)).heap.size := by simp
  cases hok : makeOk x ps ns r []
  · obtain ⟨m0, m1, m2, m3, mf⟩ := four_cells ZM.out
    obtain ⟨s0, s1, s2, s3, sf⟩ := four_cells ZS.out
    go_wp2_with fail
    ((with_reducible refine (same_bv LM.out.hdr.ints LS.out.hdr.ints).mono ?_); rintro e w6 ⟨rfl, hb⟩)
    replace IP := Lib.hid (IP.out.below hb (Nat.le_refl _))
    replace IN := Lib.hid (IN.out.below hb (Nat.le_refl _))
    replace LM := Lib.hid (LM.out.below hb (Nat.le_refl _))
    replace ZM := Lib.hid (ZM.out.below hb (Nat.le_refl _))
    replace LS := Lib.hid (LS.out.below hb (Nat.le_refl _))
    replace ZS := Lib.hid (ZS.out.below hb (Nat.le_refl _))
    replace B := Lib.hid (B.out.trans (hb.mono B.out.size))
    have z6 := hb.size
    clear hb
    clear m0 m1 m2 m3 mf s0 s1 s2 s3 sf
    go_wp2_with fail
    ((with_reducible refine (Hlp.sameInts _ _ _ _ _ _ _ _ _ _ _ _ _ LM.out.bdy.ints LS.out.bdy.ints).mono ?_); rintro e w7 ⟨rfl, hd⟩)
    have hb0 := drew_below hd
    clear hd
    replace IP := Lib.hid (IP.out.below hb0 (Nat.le_refl _))
    replace IN := Lib.hid (IN.out.below hb0 (Nat.le_refl _))
    replace LM := Lib.hid (LM.out.below hb0 (Nat.le_refl _))
    replace ZM := Lib.hid (ZM.out.below hb0 (Nat.le_refl _))
    replace LS := Lib.hid (LS.out.below hb0 (Nat.le_refl _))
    replace ZS := Lib.hid (ZS.out.below hb0 (Nat.le_refl _))
    replace B := Lib.hid (B.out.trans (hb0.mono B.out.size))
    have z7 := hb0.size
    clear hb0
    rw [decide_eq_true rfl]
    obtain ⟨m0, m1, m2, m3, mf⟩ := four_cells ZM.out
    obtain ⟨s0, s1, s2, s3, sf⟩ := four_cells ZS.out
    go_wp2_with fail
    ((with_reducible refine (same_bv LM.out.hdr.ints LS.out.hdr.ints).mono ?_); rintro e w8 ⟨rfl, hb⟩)
    replace IP := Lib.hid (IP.out.below hb (Nat.le_refl _))
    replace IN := Lib.hid (IN.out.below hb (Nat.le_refl _))
    replace LM := Lib.hid (LM.out.below hb (Nat.le_refl _))
    replace ZM := Lib.hid (ZM.out.below hb (Nat.le_refl _))
    replace LS := Lib.hid (LS.out.below hb (Nat.le_refl _))
    replace ZS := Lib.hid (ZS.out.below hb (Nat.le_refl _))
    replace B := Lib.hid (B.out.trans (hb.mono B.out.size))
    have z8 := hb.size
    clear hb
    clear m0 m1 m2 m3 mf s0 s1 s2 s3 sf
    go_wp2_with fail
    ((with_reducible refine (Hlp.sameInts _ _ _ _ _ _ _ _ _ _ _ _ _ LM.out.bdy.ints LS.out.bdy.ints).mono ?_); rintro e w9 ⟨rfl, hd⟩)
    have hb0 := drew_below hd
    clear hd
    replace IP := Lib.hid (IP.out.below hb0 (Nat.le_refl _))
    replace IN := Lib.hid (IN.out.below hb0 (Nat.le_refl _))
    replace LM := Lib.hid (LM.out.below hb0 (Nat.le_refl _))
    replace ZM := Lib.hid (ZM.out.below hb0 (Nat.le_refl _))
    replace LS := Lib.hid (LS.out.below hb0 (Nat.le_refl _))
    replace ZS := Lib.hid (ZS.out.below hb0 (Nat.le_refl _))
    replace B := Lib.hid (B.out.trans (hb0.mono B.out.size))
    have z9 := hb0.size
    clear hb0
    rw [decide_eq_true rfl]
    clear hok
    go_wp2
    go_ret
    exact ⟨rfl, B.out⟩
  obtain ⟨m0, m1, m2, m3, mf⟩ := four_cells ZM.out
  obtain ⟨s0, s1, s2, s3, sf⟩ := four_cells ZS.out
  go_wp2_with fail
  ((with_reducible refine (same_bv LM.out.hdr.ints LS.out.hdr.ints).mono ?_); rintro e w6 ⟨rfl, hb⟩)
  replace IP := Lib.hid (IP.out.below hb (Nat.le_refl _))
  replace IN := Lib.hid (IN.out.below hb (Nat.le_refl _))
  replace LM := Lib.hid (LM.out.below hb (Nat.le_refl _))
  replace ZM := Lib.hid (ZM.out.below hb (Nat.le_refl _))
  replace LS := Lib.hid (LS.out.below hb (Nat.le_refl _))
  replace ZS := Lib.hid (ZS.out.below hb (Nat.le_refl _))
  replace B := Lib.hid (B.out.trans (hb.mono B.out.size))
  have z6 := hb.size
  clear hb
  clear m0 m1 m2 m3 mf s0 s1 s2 s3 sf
  go_wp2_with fail
  ((with_reducible refine (Hlp.sameInts _ _ _ _ _ _ _ _ _ _ _ _ _ LM.out.bdy.ints LS.out.bdy.ints).mono ?_); rintro e w7 ⟨rfl, hd⟩)
  have hb0 := drew_below hd
  clear hd
  replace IP := Lib.hid (IP.out.below hb0 (Nat.le_refl _))
  replace IN := Lib.hid (IN.out.below hb0 (Nat.le_refl _))
  replace LM := Lib.hid (LM.out.below hb0 (Nat.le_refl _))
  replace ZM := Lib.hid (ZM.out.below hb0 (Nat.le_refl _))
  replace LS := Lib.hid (LS.out.below hb0 (Nat.le_refl _))
  replace ZS := Lib.hid (ZS.out.below hb0 (Nat.le_refl _))
  replace B := Lib.hid (B.out.trans (hb0.mono B.out.size))
  have z7 := hb0.size
  clear hb0
  rw [decide_eq_true rfl]
  have HK := Lib.hid hok
  clear hok
  have HIS := Lib.hid (rep_is HK.out HPE.out HFE.out)
  clear LM LS ZM ZS IP
  obtain ⟨hk2, hn1, hn3⟩ := rep_ok (n1 : Int) HK.out
  obtain ⟨a0, q1, q2, y, ha0, hga, hy1, hy2, hy3, hy4⟩ := once_all (n1 : Int) hk2 hn1 hn3
  go_wp2_with fail
  ((with_reducible refine (Sec.secrets ns.length (n1 : Int) _ hn3 (by omega) (by omega)).mono ?_); rintro e w8 ⟨AA, ca, AB, cb, rfl, ia, ib, hb⟩)
  replace IN := Lib.hid (IN.out.below hb (Nat.le_refl _))
  replace B := Lib.hid (B.out.trans (hb.mono B.out.size))
  have z8 := hb.size
  have IA := Lib.hid ia
  have IB := Lib.hid ib
  clear ia ib hb
  generalize pubL (n1 : Int) ns.length = bs at *
  generalize secL (n1 : Int) ns.length = ss at *
  obtain ⟨px, hpx⟩ : ∃ px, repF x bs ns r = px := ⟨_, rfl⟩
  obtain ⟨fx, hfx⟩ : ∃ fx, fstF x bs ns r = fx := ⟨_, rfl⟩
  have HRX := Lib.hid (And.intro hk2 (And.intro hpx hfx))
  rw [hpx, hfx] at hy1 hy2
  have HF1 := Lib.hid hy1
  have HF2 := Lib.hid hy2
  have HT1 := Lib.hid hy3
  obtain ⟨zz, hzz⟩ : ∃ zz, mtakeM y q2 = zz := ⟨_, rfl⟩
  have HT2 := Lib.hid (And.intro hzz hy4)
  have HGA := Lib.hid hga
  have HA0 := Lib.hid ha0
  have h9 : px.hd.length ≤ 9 := by rw [← hpx]; exact rep_len x r bs ns
  clear hk2 hpx hfx hy1 hy2 hy3 hy4 hga ha0 hzz
  go_wp2_with fail
  ((with_reducible refine (repX HRX.out IB.out IN.out).mono ?_); rintro e w9 ⟨AX, cx, BX, dx, g5, g6, rfl, hlie, hg5, hg6, hb⟩)
  replace IN := Lib.hid (IN.out.below hb (Nat.le_refl _))
  replace IA := Lib.hid (IA.out.below hb (Nat.le_refl _))
  replace IB := Lib.hid (IB.out.below hb (Nat.le_refl _))
  replace B := Lib.hid (B.out.trans (hb.mono B.out.size))
  have z9 := hb.size
  have LX := Lib.hid hlie
  clear hlie hb
  have hal : Below w9.heap.size w9 (w9.alloc (.cells #[.int .i64 fx, .int .i64 px.el, .slice AX px.hd.length cx, .int .i64 px.tag] 27)) := (Below.refl _ _).alloc (Nat.le_refl _) _
  have hzz : Blk (w9.alloc (.cells #[.int .i64 fx, .int .i64 px.el, .slice AX px.hd.length cx, .int .i64 px.tag] 27)) w9.heap.size #[.int .i64 fx, .int .i64 px.el, .slice AX px.hd.length cx, .int .i64 px.tag] 27 := heap_alloc_new _ _
  replace IN := Lib.hid (IN.out.below hal (Nat.le_refl _))
  replace IA := Lib.hid (IA.out.below hal (Nat.le_refl _))
  replace IB := Lib.hid (IB.out.below hal (Nat.le_refl _))
  replace LX := Lib.hid (LX.out.below hal (Nat.le_refl _))
  replace B := Lib.hid (B.out.trans (hal.mono B.out.size))
  have ZX := Lib.hid hzz
  clear hzz
  clear hal
  have hzX : w9.heap.size < (w9.alloc (.cells #[.int .i64 fx, .int .i64 px.el, .slice AX px.hd.length cx, .int .i64 px.tag] 27)).heap.size := by simp
  have hal : Below (w9.alloc (.cells #[.int .i64 fx, .int .i64 px.el, .slice AX px.hd.length cx, .int .i64 px.tag] 27)).heap.size (w9.alloc (.cells #[.int .i64 fx, .int .i64 px.el, .slice AX px.hd.length cx, .int .i64 px.tag] 27)) ((w9.alloc (.cells #[.int .i64 fx, .int .i64 px.el, .slice AX px.hd.length cx, .int .i64 px.tag] 27)).alloc (.cells #[.int .i64 1] 3)) := (Below.refl _ _).alloc (Nat.le_refl _) _
  have hzz : Blk ((w9.alloc (.cells #[.int .i64 fx, .int .i64 px.el, .slice AX px.hd.length cx, .int .i64 px.tag] 27)).alloc (.cells #[.int .i64 1] 3)) (w9.alloc (.cells #[.int .i64 fx, .int .i64 px.el, .slice AX px.hd.length cx, .int .i64 px.tag] 27)).heap.size #[.int .i64 1] 3 := heap_alloc_new _ _
  replace IN := Lib.hid (IN.out.below hal (Nat.le_refl _))
  replace IA := Lib.hid (IA.out.below hal (Nat.le_refl _))
  replace IB := Lib.hid (IB.out.below hal (Nat.le_refl _))
  replace LX := Lib.hid (LX.out.below hal (Nat.le_refl _))
  replace ZX := Lib.hid (ZX.out.below hal (Nat.le_refl _))
  replace B := Lib.hid (B.out.trans (hal.mono B.out.size))
  have ZV1 := Lib.hid hzz
  clear hzz
  clear hal
  have hzV1 : (w9.alloc (.cells #[.int .i64 fx, .int .i64 px.el, .slice AX px.hd.length cx, .int .i64 px.tag] 27)).heap.size < ((w9.alloc (.cells #[.int .i64 fx, .int .i64 px.el, .slice AX px.hd.length cx, .int .i64 px.tag] 27)).alloc (.cells #[.int .i64 1] 3)).heap.size := by simp
  have IV1 : Hid (Ints (w9.heap.size + 1) (w9.heap.size + 1 + 1) ((w9.alloc (.cells #[.int .i64 fx, .int .i64 px.el, .slice AX px.hd.length cx, .int .i64 px.tag] 27)).alloc (.cells #[.int .i64 1] 3)) (some ⟨w9.heap.size + 1, 0, none⟩) 1 1 [1]) := ints_lit1g (w9.alloc (.cells #[.int .i64 fx, .int .i64 px.el, .slice AX px.hd.length cx, .int .i64 px.tag] 27)) 1 (by simp)
  obtain ⟨k0, k1, k2, k3, kf⟩ := four_cells ZX.out
  go_wp2_with fail
  ((with_reducible refine (fill_q HF1.out LX.out.hdr.ints (by omega) IV1.out).mono ?_); rintro e w12 ⟨AY, cy, BY, dy, g7, g8, rfl, hlie, hg7, hg8, hb⟩)
  replace IN := Lib.hid (IN.out.below hb (Nat.le_refl _))
  replace IA := Lib.hid (IA.out.below hb (Nat.le_refl _))
  replace IB := Lib.hid (IB.out.below hb (Nat.le_refl _))
  replace LX := Lib.hid (LX.out.below hb (Nat.le_refl _))
  replace ZX := Lib.hid (ZX.out.below hb (Nat.le_refl _))
  replace ZV1 := Lib.hid (ZV1.out.below hb (Nat.le_refl _))
  replace IV1 := Lib.hid (IV1.out.below hb (Nat.le_refl _))
  replace B := Lib.hid (B.out.trans (hb.mono B.out.size))
  have z12 := hb.size
  have LY := Lib.hid hlie
  clear hlie hb
  clear k0 k1 k2 k3 kf
  have hal : Below w12.heap.size w12 (w12.alloc (.cells #[.int .i64 q1.el, .slice AY q1.hd.length cy, .int .i64 q1.tag, .slice BY q1.bd.length dy] 39)) := (Below.refl _ _).alloc (Nat.le_refl _) _
  have hzz : Blk (w12.alloc (.cells #[.int .i64 q1.el, .slice AY q1.hd.length cy, .int .i64 q1.tag, .slice BY q1.bd.length dy] 39)) w12.heap.size #[.int .i64 q1.el, .slice AY q1.hd.length cy, .int .i64 q1.tag, .slice BY q1.bd.length dy] 39 := heap_alloc_new _ _
  replace IN := Lib.hid (IN.out.below hal (Nat.le_refl _))
  replace IA := Lib.hid (IA.out.below hal (Nat.le_refl _))
  replace IB := Lib.hid (IB.out.below hal (Nat.le_refl _))
  replace LX := Lib.hid (LX.out.below hal (Nat.le_refl _))
  replace ZX := Lib.hid (ZX.out.below hal (Nat.le_refl _))
  replace ZV1 := Lib.hid (ZV1.out.below hal (Nat.le_refl _))
  replace IV1 := Lib.hid (IV1.out.below hal (Nat.le_refl _))
  replace LY := Lib.hid (LY.out.below hal (Nat.le_refl _))
  replace B := Lib.hid (B.out.trans (hal.mono B.out.size))
  have ZY := Lib.hid hzz
  clear hzz
  clear hal
  have hzY : w12.heap.size < (w12.alloc (.cells #[.int .i64 q1.el, .slice AY q1.hd.length cy, .int .i64 q1.tag, .slice BY q1.bd.length dy] 39)).heap.size := by simp
  obtain ⟨j0, j1, j2, j3, jf⟩ := four_cells ZX.out
  have hal : Below (w12.alloc (.cells #[.int .i64 q1.el, .slice AY q1.hd.length cy, .int .i64 q1.tag, .slice BY q1.bd.length dy] 39)).heap.size (w12.alloc (.cells #[.int .i64 q1.el, .slice AY q1.hd.length cy, .int .i64 q1.tag, .slice BY q1.bd.length dy] 39)) ((w12.alloc (.cells #[.int .i64 q1.el, .slice AY q1.hd.length cy, .int .i64 q1.tag, .slice BY q1.bd.length dy] 39)).alloc (.cells #[.int .i64 2, .int .i64 3] 3)) := (Below.refl _ _).alloc (Nat.le_refl _) _
  have hzz : Blk ((w12.alloc (.cells #[.int .i64 q1.el, .slice AY q1.hd.length cy, .int .i64 q1.tag, .slice BY q1.bd.length dy] 39)).alloc (.cells #[.int .i64 2, .int .i64 3] 3)) (w12.alloc (.cells #[.int .i64 q1.el, .slice AY q1.hd.length cy, .int .i64 q1.tag, .slice BY q1.bd.length dy] 39)).heap.size #[.int .i64 2, .int .i64 3] 3 := heap_alloc_new _ _
  replace IN := Lib.hid (IN.out.below hal (Nat.le_refl _))
  replace IA := Lib.hid (IA.out.below hal (Nat.le_refl _))
  replace IB := Lib.hid (IB.out.below hal (Nat.le_refl _))
  replace LX := Lib.hid (LX.out.below hal (Nat.le_refl _))
  replace ZX := Lib.hid (ZX.out.below hal (Nat.le_refl _))
  replace ZV1 := Lib.hid (ZV1.out.below hal (Nat.le_refl _))
  replace IV1 := Lib.hid (IV1.out.below hal (Nat.le_refl _))
  replace LY := Lib.hid (LY.out.below hal (Nat.le_refl _))
  replace ZY := Lib.hid (ZY.out.below hal (Nat.le_refl _))
  replace B := Lib.hid (B.out.trans (hal.mono B.out.size))
  have ZV2 := Lib.hid hzz
  clear hzz
  clear hal
  have hzV2 : (w12.alloc (.cells #[.int .i64 q1.el, .slice AY q1.hd.length cy, .int .i64 q1.tag, .slice BY q1.bd.length dy] 39)).heap.size < ((w12.alloc (.cells #[.int .i64 q1.el, .slice AY q1.hd.length cy, .int .i64 q1.tag, .slice BY q1.bd.length dy] 39)).alloc (.cells #[.int .i64 2, .int .i64 3] 3)).heap.size := by simp
  have IV2 : Hid (Ints (w12.heap.size + 1) (w12.heap.size + 1 + 1) ((w12.alloc (.cells #[.int .i64 q1.el, .slice AY q1.hd.length cy, .int .i64 q1.tag, .slice BY q1.bd.length dy] 39)).alloc (.cells #[.int .i64 2, .int .i64 3] 3)) (some ⟨w12.heap.size + 1, 0, none⟩) 2 2 [2, 3]) := ints_lit2g (w12.alloc (.cells #[.int .i64 q1.el, .slice AY q1.hd.length cy, .int .i64 q1.tag, .slice BY q1.bd.length dy] 39)) 2 3 (by simp)
  obtain ⟨k0, k1, k2, k3, kf⟩ := four_cells ZX.out
  go_wp2_with fail
  ((with_reducible refine (fill_q HF2.out LX.out.hdr.ints (by omega) IV2.out).mono ?_); rintro e w15 ⟨AU, cu, BU, du, g9, g10, rfl, hlie, hg9, hg10, hb⟩)
  replace IN := Lib.hid (IN.out.below hb (Nat.le_refl _))
  replace IA := Lib.hid (IA.out.below hb (Nat.le_refl _))
  replace IB := Lib.hid (IB.out.below hb (Nat.le_refl _))
  replace LX := Lib.hid (LX.out.below hb (Nat.le_refl _))
  replace ZX := Lib.hid (ZX.out.below hb (Nat.le_refl _))
  replace ZV1 := Lib.hid (ZV1.out.below hb (Nat.le_refl _))
  replace IV1 := Lib.hid (IV1.out.below hb (Nat.le_refl _))
  replace LY := Lib.hid (LY.out.below hb (Nat.le_refl _))
  replace ZY := Lib.hid (ZY.out.below hb (Nat.le_refl _))
  replace ZV2 := Lib.hid (ZV2.out.below hb (Nat.le_refl _))
  replace IV2 := Lib.hid (IV2.out.below hb (Nat.le_refl _))
  replace B := Lib.hid (B.out.trans (hb.mono B.out.size))
  have z15 := hb.size
  have LU := Lib.hid hlie
  clear hlie hb
  clear k0 k1 k2 k3 kf
  clear j0 j1 j2 j3 jf
  have hal : Below w15.heap.size w15 (w15.alloc (.cells #[.int .i64 q2.el, .slice AU q2.hd.length cu, .int .i64 q2.tag, .slice BU q2.bd.length du] 39)) := (Below.refl _ _).alloc (Nat.le_refl _) _
  have hzz : Blk (w15.alloc (.cells #[.int .i64 q2.el, .slice AU q2.hd.length cu, .int .i64 q2.tag, .slice BU q2.bd.length du] 39)) w15.heap.size #[.int .i64 q2.el, .slice AU q2.hd.length cu, .int .i64 q2.tag, .slice BU q2.bd.length du] 39 := heap_alloc_new _ _
  replace IN := Lib.hid (IN.out.below hal (Nat.le_refl _))
  replace IA := Lib.hid (IA.out.below hal (Nat.le_refl _))
  replace IB := Lib.hid (IB.out.below hal (Nat.le_refl _))
  replace LX := Lib.hid (LX.out.below hal (Nat.le_refl _))
  replace ZX := Lib.hid (ZX.out.below hal (Nat.le_refl _))
  replace ZV1 := Lib.hid (ZV1.out.below hal (Nat.le_refl _))
  replace IV1 := Lib.hid (IV1.out.below hal (Nat.le_refl _))
  replace LY := Lib.hid (LY.out.below hal (Nat.le_refl _))
  replace ZY := Lib.hid (ZY.out.below hal (Nat.le_refl _))
  replace ZV2 := Lib.hid (ZV2.out.below hal (Nat.le_refl _))
  replace IV2 := Lib.hid (IV2.out.below hal (Nat.le_refl _))
  replace LU := Lib.hid (LU.out.below hal (Nat.le_refl _))
  replace B := Lib.hid (B.out.trans (hal.mono B.out.size))
  have ZU := Lib.hid hzz
  clear hzz
  clear hal
  have hzU : w15.heap.size < (w15.alloc (.cells #[.int .i64 q2.el, .slice AU q2.hd.length cu, .int .i64 q2.tag, .slice BU q2.bd.length du] 39)).heap.size := by simp
  obtain ⟨ba, oa, rfl, _, _, a00⟩ := IA.out.at_ (k := 0) (by omega)
  rw [Nat.add_zero, HA0.out] at a00
  have hn0 : (0 : Int) < (ns.length : Int) := by omega
  have hn00 : 0 < ns.length := by omega
  go_wp2_with fail
  ((with_reducible refine (mixN HGA.out).mono ?_); rintro e w17 ⟨AW, cw, BW, dw, rfl, hr, hb⟩)
  replace IN := Lib.hid (IN.out.below hb (Nat.le_refl _))
  replace IA := Lib.hid (IA.out.below hb (Nat.le_refl _))
  replace IB := Lib.hid (IB.out.below hb (Nat.le_refl _))
  replace LX := Lib.hid (LX.out.below hb (Nat.le_refl _))
  replace ZX := Lib.hid (ZX.out.below hb (Nat.le_refl _))
  replace ZV1 := Lib.hid (ZV1.out.below hb (Nat.le_refl _))
  replace IV1 := Lib.hid (IV1.out.below hb (Nat.le_refl _))
  replace LY := Lib.hid (LY.out.below hb (Nat.le_refl _))
  replace ZY := Lib.hid (ZY.out.below hb (Nat.le_refl _))
  replace ZV2 := Lib.hid (ZV2.out.below hb (Nat.le_refl _))
  replace IV2 := Lib.hid (IV2.out.below hb (Nat.le_refl _))
  replace LU := Lib.hid (LU.out.below hb (Nat.le_refl _))
  replace ZU := Lib.hid (ZU.out.below hb (Nat.le_refl _))
  replace B := Lib.hid (B.out.trans (hb.mono B.out.size))
  have z17 := hb.size
  have RW := Lib.hid hr
  clear hr hb
  clear a00
  have hal : Below w17.heap.size w17 (w17.alloc (.cells #[.int .i64 a0, .slice AW 0 cw, .slice BW 0 dw] 58)) := (Below.refl _ _).alloc (Nat.le_refl _) _
  have hzz : Blk (w17.alloc (.cells #[.int .i64 a0, .slice AW 0 cw, .slice BW 0 dw] 58)) w17.heap.size #[.int .i64 a0, .slice AW 0 cw, .slice BW 0 dw] 58 := heap_alloc_new _ _
  replace IN := Lib.hid (IN.out.below hal (Nat.le_refl _))
  replace IA := Lib.hid (IA.out.below hal (Nat.le_refl _))
  replace IB := Lib.hid (IB.out.below hal (Nat.le_refl _))
  replace LX := Lib.hid (LX.out.below hal (Nat.le_refl _))
  replace ZX := Lib.hid (ZX.out.below hal (Nat.le_refl _))
  replace ZV1 := Lib.hid (ZV1.out.below hal (Nat.le_refl _))
  replace IV1 := Lib.hid (IV1.out.below hal (Nat.le_refl _))
  replace LY := Lib.hid (LY.out.below hal (Nat.le_refl _))
  replace ZY := Lib.hid (ZY.out.below hal (Nat.le_refl _))
  replace ZV2 := Lib.hid (ZV2.out.below hal (Nat.le_refl _))
  replace IV2 := Lib.hid (IV2.out.below hal (Nat.le_refl _))
  replace LU := Lib.hid (LU.out.below hal (Nat.le_refl _))
  replace ZU := Lib.hid (ZU.out.below hal (Nat.le_refl _))
  replace RW := Lib.hid (RW.out.below hal (Nat.le_refl _))
  replace B := Lib.hid (B.out.trans (hal.mono B.out.size))
  have ZW := Lib.hid hzz
  clear hzz
  clear hal
  have hzW : w17.heap.size < (w17.alloc (.cells #[.int .i64 a0, .slice AW 0 cw, .slice BW 0 dw] 58)).heap.size := by simp
  obtain ⟨m0, m1, m2, mf⟩ := Sp6.three_cells ZW.out
  obtain ⟨k0, k1, k2, k3, kf⟩ := four_cells ZY.out
  go_wp2_with fail
  ((with_reducible refine (take0 HT1.out RW.out LY.out.hdr.ints LY.out.bdy.ints).mono ?_); rintro e w19 ⟨AT, ct, BT, dt, rfl, hr, hb⟩)
  replace IN := Lib.hid (IN.out.below hb (Nat.le_refl _))
  replace IA := Lib.hid (IA.out.below hb (Nat.le_refl _))
  replace IB := Lib.hid (IB.out.below hb (Nat.le_refl _))
  replace LX := Lib.hid (LX.out.below hb (Nat.le_refl _))
  replace ZX := Lib.hid (ZX.out.below hb (Nat.le_refl _))
  replace ZV1 := Lib.hid (ZV1.out.below hb (Nat.le_refl _))
  replace IV1 := Lib.hid (IV1.out.below hb (Nat.le_refl _))
  replace LY := Lib.hid (LY.out.below hb (Nat.le_refl _))
  replace ZY := Lib.hid (ZY.out.below hb (Nat.le_refl _))
  replace ZV2 := Lib.hid (ZV2.out.below hb (Nat.le_refl _))
  replace IV2 := Lib.hid (IV2.out.below hb (Nat.le_refl _))
  replace LU := Lib.hid (LU.out.below hb (Nat.le_refl _))
  replace ZU := Lib.hid (ZU.out.below hb (Nat.le_refl _))
  replace RW := Lib.hid (RW.out.below hb (Nat.le_refl _))
  replace ZW := Lib.hid (ZW.out.below hb (Nat.le_refl _))
  replace B := Lib.hid (B.out.trans (hb.mono B.out.size))
  have z19 := hb.size
  have RT := Lib.hid hr
  clear hr hb
  clear m0 m1 m2 mf k0 k1 k2 k3 kf
  have hal : Below w19.heap.size w19 (w19.alloc (.cells #[.int .i64 y.sec, .slice AT y.seen.length ct, .slice BT y.pool.length dt] 58)) := (Below.refl _ _).alloc (Nat.le_refl _) _
  have hzz : Blk (w19.alloc (.cells #[.int .i64 y.sec, .slice AT y.seen.length ct, .slice BT y.pool.length dt] 58)) w19.heap.size #[.int .i64 y.sec, .slice AT y.seen.length ct, .slice BT y.pool.length dt] 58 := heap_alloc_new _ _
  replace IN := Lib.hid (IN.out.below hal (Nat.le_refl _))
  replace IA := Lib.hid (IA.out.below hal (Nat.le_refl _))
  replace IB := Lib.hid (IB.out.below hal (Nat.le_refl _))
  replace LX := Lib.hid (LX.out.below hal (Nat.le_refl _))
  replace ZX := Lib.hid (ZX.out.below hal (Nat.le_refl _))
  replace ZV1 := Lib.hid (ZV1.out.below hal (Nat.le_refl _))
  replace IV1 := Lib.hid (IV1.out.below hal (Nat.le_refl _))
  replace LY := Lib.hid (LY.out.below hal (Nat.le_refl _))
  replace ZY := Lib.hid (ZY.out.below hal (Nat.le_refl _))
  replace ZV2 := Lib.hid (ZV2.out.below hal (Nat.le_refl _))
  replace IV2 := Lib.hid (IV2.out.below hal (Nat.le_refl _))
  replace LU := Lib.hid (LU.out.below hal (Nat.le_refl _))
  replace ZU := Lib.hid (ZU.out.below hal (Nat.le_refl _))
  replace RW := Lib.hid (RW.out.below hal (Nat.le_refl _))
  replace ZW := Lib.hid (ZW.out.below hal (Nat.le_refl _))
  replace RT := Lib.hid (RT.out.below hal (Nat.le_refl _))
  replace B := Lib.hid (B.out.trans (hal.mono B.out.size))
  have ZT := Lib.hid hzz
  clear hzz
  clear hal
  have hzT : w19.heap.size < (w19.alloc (.cells #[.int .i64 y.sec, .slice AT y.seen.length ct, .slice BT y.pool.length dt] 58)).heap.size := by simp
  obtain ⟨m0, m1, m2, mf⟩ := Sp6.three_cells ZT.out
  obtain ⟨k0, k1, k2, k3, kf⟩ := four_cells ZU.out
  go_wp2_with fail
  ((with_reducible refine (takeY HT2.out RT.out LU.out.hdr.ints LU.out.bdy.ints).mono ?_); rintro e w21 ⟨AQ, cq, BQ, dq, rfl, hr, hb⟩)
  replace IN := Lib.hid (IN.out.below hb (Nat.le_refl _))
  replace IA := Lib.hid (IA.out.below hb (Nat.le_refl _))
  replace IB := Lib.hid (IB.out.below hb (Nat.le_refl _))
  replace LX := Lib.hid (LX.out.below hb (Nat.le_refl _))
  replace ZX := Lib.hid (ZX.out.below hb (Nat.le_refl _))
  replace ZV1 := Lib.hid (ZV1.out.below hb (Nat.le_refl _))
  replace IV1 := Lib.hid (IV1.out.below hb (Nat.le_refl _))
  replace LY := Lib.hid (LY.out.below hb (Nat.le_refl _))
  replace ZY := Lib.hid (ZY.out.below hb (Nat.le_refl _))
  replace ZV2 := Lib.hid (ZV2.out.below hb (Nat.le_refl _))
  replace IV2 := Lib.hid (IV2.out.below hb (Nat.le_refl _))
  replace LU := Lib.hid (LU.out.below hb (Nat.le_refl _))
  replace ZU := Lib.hid (ZU.out.below hb (Nat.le_refl _))
  replace RW := Lib.hid (RW.out.below hb (Nat.le_refl _))
  replace ZW := Lib.hid (ZW.out.below hb (Nat.le_refl _))
  replace RT := Lib.hid (RT.out.below hb (Nat.le_refl _))
  replace ZT := Lib.hid (ZT.out.below hb (Nat.le_refl _))
  replace B := Lib.hid (B.out.trans (hb.mono B.out.size))
  have z21 := hb.size
  have RQ := Lib.hid hr
  clear hr hb
  clear m0 m1 m2 mf k0 k1 k2 k3 kf
  have hal : Below w21.heap.size w21 (w21.alloc (.cells #[.int .i64 zz.sec, .slice AQ zz.seen.length cq, .slice BQ zz.pool.length dq] 58)) := (Below.refl _ _).alloc (Nat.le_refl _) _
  have hzz : Blk (w21.alloc (.cells #[.int .i64 zz.sec, .slice AQ zz.seen.length cq, .slice BQ zz.pool.length dq] 58)) w21.heap.size #[.int .i64 zz.sec, .slice AQ zz.seen.length cq, .slice BQ zz.pool.length dq] 58 := heap_alloc_new _ _
  replace IN := Lib.hid (IN.out.below hal (Nat.le_refl _))
  replace IA := Lib.hid (IA.out.below hal (Nat.le_refl _))
  replace IB := Lib.hid (IB.out.below hal (Nat.le_refl _))
  replace LX := Lib.hid (LX.out.below hal (Nat.le_refl _))
  replace ZX := Lib.hid (ZX.out.below hal (Nat.le_refl _))
  replace ZV1 := Lib.hid (ZV1.out.below hal (Nat.le_refl _))
  replace IV1 := Lib.hid (IV1.out.below hal (Nat.le_refl _))
  replace LY := Lib.hid (LY.out.below hal (Nat.le_refl _))
  replace ZY := Lib.hid (ZY.out.below hal (Nat.le_refl _))
  replace ZV2 := Lib.hid (ZV2.out.below hal (Nat.le_refl _))
  replace IV2 := Lib.hid (IV2.out.below hal (Nat.le_refl _))
  replace LU := Lib.hid (LU.out.below hal (Nat.le_refl _))
  replace ZU := Lib.hid (ZU.out.below hal (Nat.le_refl _))
  replace RW := Lib.hid (RW.out.below hal (Nat.le_refl _))
  replace ZW := Lib.hid (ZW.out.below hal (Nat.le_refl _))
  replace RT := Lib.hid (RT.out.below hal (Nat.le_refl _))
  replace ZT := Lib.hid (ZT.out.below hal (Nat.le_refl _))
  replace RQ := Lib.hid (RQ.out.below hal (Nat.le_refl _))
  replace B := Lib.hid (B.out.trans (hal.mono B.out.size))
  have ZQ := Lib.hid hzz
  clear hzz
  clear hal
  have hzQ : w21.heap.size < (w21.alloc (.cells #[.int .i64 zz.sec, .slice AQ zz.seen.length cq, .slice BQ zz.pool.length dq] 58)).heap.size := by simp
  go_wp2
  go_ret
  exact ⟨rfl, B.out⟩

end Law10o
end Go.Proofs.Ytljfhddgifacnaa
