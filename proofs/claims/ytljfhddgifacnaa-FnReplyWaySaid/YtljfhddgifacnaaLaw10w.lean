/-
  The law of chapter 22 on the way of replies, by the contracts of the functions that it calls: it returns true and writes nothing that was there.
-/
import Derived.Test.YtljfhddgifacnaaLaw5v
import Derived.Test.YtljfhddgifacnaaLaw10
namespace Go.Proofs.Ytljfhddgifacnaa
open Go.RowKit
namespace Law10w
open Gm Mm Tm Lm Pm Po Pq Il Rd Hlp5 LawB Sec Law5s Law5v Rm Cl Rp Law10

theorem way_gen {x r : Int} {ns b : List Int} (s : Int) (q2 : inG x = true) (q5 : ∀ y ∈ ns, inName y = true) (q6 : inName r = true) (hb : okL b = true) (hb6 : b.length = 6) (h1 : 1 ≤ ns.length) (h3 : ns.length ≤ 3) :
    (∀ i, i < ns.length → StepOk ((secL s ns.length).getD i 0) (wayQ (secL s ns.length) (pkt x (pubL s ns.length) ns r (fillF (keysF x (pubL s ns.length))) b) i) ns r i) ∧
    (wayQ (secL s ns.length) (pkt x (pubL s ns.length) ns r (fillF (keysF x (pubL s ns.length))) b) ns.length).bd = b := by
  have he : ∀ i : Int, inG (1 + (s * 29 + i * 101 + 3) % 996) = true := fun i => inG_iff.2 (by omega)
  have g0 := he ((0 : Nat) : Int)
  have g1 := he ((1 : Nat) : Int)
  have g2 := he ((2 : Nat) : Int)
  match ns, h1, h3 with
  | [a], _, _ =>
    have hs : secL s [a].length = [1 + (s * 29 + ((0 : Nat) : Int) * 101 + 3) % 996] := rfl
    have hp : pubL s [a].length = [mulG (1 + (s * 29 + ((0 : Nat) : Int) * 101 + 3) % 996) 5] := rfl
    rw [hs, hp]
    clear hs hp
    generalize 1 + (s * 29 + ((0 : Nat) : Int) * 101 + 3) % 996 = e0 at *
    obtain ⟨t1, t2, t3, t4⟩ := step_last (x := x) (a := e0) (r := r) (names := [a]) (f := fillF (keysF x [mulG e0 5])) (b := b) (pre := []) q2 g0 (by simp) rfl q6 hb hb6
    have t5 := peelF_yes t1
    refine ⟨fun i hi => ?_, ?_⟩
    · obtain rfl : i = 0 := by simp at hi; omega
      refine ⟨t1, fun hh => by simp at hh, fun _ => ?_⟩
      show (peelF e0 _).kind = 1 ∧ (peelF e0 _).next = r
      rw [show wayQ [e0] (pkt x [mulG e0 5] [a] r (fillF (keysF x [mulG e0 5])) (b)) 0 = pkt x [mulG e0 5] [a] r (fillF (keysF x [mulG e0 5])) (b) from rfl, t5]
      exact ⟨t2, t3⟩
    · show (peelF e0 (pkt x [mulG e0 5] [a] r (fillF (keysF x [mulG e0 5])) (b))).pk.bd = b
      rw [t5]; exact t4
  | [a, a2], _, _ =>
    have hn2 : inName a2 = true := q5 a2 (by simp)
    have hs : secL s [a, a2].length = [1 + (s * 29 + ((0 : Nat) : Int) * 101 + 3) % 996, 1 + (s * 29 + ((1 : Nat) : Int) * 101 + 3) % 996] := rfl
    have hp : pubL s [a, a2].length = [mulG (1 + (s * 29 + ((0 : Nat) : Int) * 101 + 3) % 996) 5, mulG (1 + (s * 29 + ((1 : Nat) : Int) * 101 + 3) % 996) 5] := rfl
    rw [hs, hp]
    clear hs hp
    generalize 1 + (s * 29 + ((0 : Nat) : Int) * 101 + 3) % 996 = e0 at *
    generalize 1 + (s * 29 + ((1 : Nat) : Int) * 101 + 3) % 996 = e1 at *
    have hx2 : inG (mulG x (facG (mulG x (mulG e0 5)))) = true := mulG_pos q2 (facG_pos (mulG_pos q2 (mulG_pos g0 (by decide))))
    generalize hf : fillF (keysF x [mulG e0 5, mulG e1 5]) = f
    obtain ⟨t1, t2⟩ := step_next (x := x) (a := e0) (a2 := e1) (r := r) («as» := []) (names := [a, a2]) (f := f) (b := b) (pre := []) q2 g0 (by simp) hf.symm hn2 hb hb6
    have t5 := (peelF_yes t1).trans t2
    obtain ⟨u1, u2, u3, u4⟩ := step_last (x := mulG x (facG (mulG x (mulG e0 5)))) (a := e1) (r := r) (names := [a2]) (f := f) (b := b) (pre := [mulG x (mulG e0 5)]) hx2 g1 (by simp) hf.symm q6 hb hb6
    have u5 := peelF_yes u1
    have w0 : wayQ [e0, e1] (pkt x [mulG e0 5, mulG e1 5] [a, a2] r f (b)) 1 = pkt (mulG x (facG (mulG x (mulG e0 5)))) [mulG e1 5] [a2] r f (b) := by
      show (peelF e0 (pkt x [mulG e0 5, mulG e1 5] [a, a2] r f (b))).pk = _
      exact congrArg Pld.pk t5
    refine ⟨fun i hi => ?_, ?_⟩
    · obtain rfl | rfl : i = 0 ∨ i = 1 := by simp at hi; omega
      · refine ⟨t1, fun _ => ?_, fun hh => by simp at hh⟩
        exact ⟨congrArg Pld.kind t5, congrArg Pld.next t5⟩
      · rw [w0]
        refine ⟨u1, fun hh => by simp at hh, fun _ => ?_⟩
        show (peelF e1 _).kind = 1 ∧ (peelF e1 _).next = r
        rw [u5]
        exact ⟨u2, u3⟩
    · show (peelF e1 (wayQ [e0, e1] (pkt x [mulG e0 5, mulG e1 5] [a, a2] r f (b)) 1)).pk.bd = b
      rw [w0, u5]; exact u4
  | [a, a2, a3], _, _ =>
    have hn2 : inName a2 = true := q5 a2 (by simp)
    have hn3 : inName a3 = true := q5 a3 (by simp)
    have hs : secL s [a, a2, a3].length = [1 + (s * 29 + ((0 : Nat) : Int) * 101 + 3) % 996, 1 + (s * 29 + ((1 : Nat) : Int) * 101 + 3) % 996, 1 + (s * 29 + ((2 : Nat) : Int) * 101 + 3) % 996] := rfl
    have hp : pubL s [a, a2, a3].length = [mulG (1 + (s * 29 + ((0 : Nat) : Int) * 101 + 3) % 996) 5, mulG (1 + (s * 29 + ((1 : Nat) : Int) * 101 + 3) % 996) 5, mulG (1 + (s * 29 + ((2 : Nat) : Int) * 101 + 3) % 996) 5] := rfl
    rw [hs, hp]
    clear hs hp
    generalize 1 + (s * 29 + ((0 : Nat) : Int) * 101 + 3) % 996 = e0 at *
    generalize 1 + (s * 29 + ((1 : Nat) : Int) * 101 + 3) % 996 = e1 at *
    generalize 1 + (s * 29 + ((2 : Nat) : Int) * 101 + 3) % 996 = e2 at *
    have hx2 : inG (mulG x (facG (mulG x (mulG e0 5)))) = true := mulG_pos q2 (facG_pos (mulG_pos q2 (mulG_pos g0 (by decide))))
    generalize hf : fillF (keysF x [mulG e0 5, mulG e1 5, mulG e2 5]) = f
    obtain ⟨t1, t2⟩ := step_next (x := x) (a := e0) (a2 := e1) (r := r) («as» := [e2]) (names := [a, a2, a3]) (f := f) (b := b) (pre := []) q2 g0 (by simp) hf.symm hn2 hb hb6
    have t5 := (peelF_yes t1).trans t2
    have hf2 : f = (([mulG x (mulG e0 5)] ++ keysF (mulG x (facG (mulG x (mulG e0 5)))) [mulG e1 5, mulG e2 5]).dropLast).foldl fillStep [] := hf.symm
    generalize mulG x (facG (mulG x (mulG e0 5))) = x2 at *
    have hx3 : inG (mulG x2 (facG (mulG x2 (mulG e1 5)))) = true := mulG_pos hx2 (facG_pos (mulG_pos hx2 (mulG_pos g1 (by decide))))
    obtain ⟨v1, v2⟩ := step_next (x := x2) (a := e1) (a2 := e2) (r := r) («as» := []) (names := [a2, a3]) (f := f) (b := b) (pre := [mulG x (mulG e0 5)]) hx2 g1 (by simp) hf2 hn3 hb hb6
    have v5 := (peelF_yes v1).trans v2
    obtain ⟨u1, u2, u3, u4⟩ := step_last (x := mulG x2 (facG (mulG x2 (mulG e1 5)))) (a := e2) (r := r) (names := [a3]) (f := f) (b := b) (pre := [mulG x (mulG e0 5), mulG x2 (mulG e1 5)]) hx3 g2 (by simp) hf2 q6 hb hb6
    have u5 := peelF_yes u1
    have w0 : wayQ [e0, e1, e2] (pkt x [mulG e0 5, mulG e1 5, mulG e2 5] [a, a2, a3] r f (b)) 1 = pkt x2 [mulG e1 5, mulG e2 5] [a2, a3] r f (b) := by
      show (peelF e0 (pkt x [mulG e0 5, mulG e1 5, mulG e2 5] [a, a2, a3] r f (b))).pk = _
      exact congrArg Pld.pk t5
    have w1 : wayQ [e0, e1, e2] (pkt x [mulG e0 5, mulG e1 5, mulG e2 5] [a, a2, a3] r f (b)) 2 = pkt (mulG x2 (facG (mulG x2 (mulG e1 5)))) [mulG e2 5] [a3] r f (b) := by
      show (peelF e1 (wayQ [e0, e1, e2] (pkt x [mulG e0 5, mulG e1 5, mulG e2 5] [a, a2, a3] r f (b)) 1)).pk = _
      rw [w0]
      exact congrArg Pld.pk v5
    refine ⟨fun i hi => ?_, ?_⟩
    · obtain rfl | rfl | rfl : i = 0 ∨ i = 1 ∨ i = 2 := by simp at hi; omega
      · refine ⟨t1, fun _ => ?_, fun hh => by simp at hh⟩
        exact ⟨congrArg Pld.kind t5, congrArg Pld.next t5⟩
      · rw [w0]
        refine ⟨v1, fun _ => ?_, fun hh => by simp at hh⟩
        exact ⟨congrArg Pld.kind v5, congrArg Pld.next v5⟩
      · rw [w1]
        refine ⟨u1, fun hh => by simp at hh, fun _ => ?_⟩
        show (peelF e2 _).kind = 1 ∧ (peelF e2 _).next = r
        rw [u5]
        exact ⟨u2, u3⟩
    · show (peelF e2 (wayQ [e0, e1, e2] (pkt x [mulG e0 5, mulG e1 5, mulG e2 5] [a, a2, a3] r f (b)) 2)).pk.bd = b
      rw [w1, u5]; exact u4

theorem rep_ok {x r : Int} {ps ns : List Int} (s : Int) (h : makeOk x ps ns r [] = true) : makeOk x (pubL s ns.length) ns r [] = true ∧ 1 ≤ ns.length ∧ ns.length ≤ 3 := by
  obtain ⟨q1, q2, q3, q4, q5, q6⟩ := makeOk_iff.1 h
  obtain ⟨_, h1, h3⟩ := pubs_all q3
  exact ⟨makeOk_iff.2 ⟨q1, q2, Law5s.pubL_ok s (by omega) (by omega), (pubL_len s ns.length).symm, q5, q6⟩, by omega, by omega⟩
theorem ints_lit2 (w : World) (x y : Int) : Ints w.heap.size (w.heap.size + 1) (w.alloc (.cells #[.int .i64 x, .int .i64 y] 3)) (some ⟨w.heap.size, 0, none⟩) 2 2 [x, y] := by
  have hh : (w.alloc (.cells #[.int .i64 x, .int .i64 y] 3)).heap[w.heap.size]? = some (.cells #[.int .i64 x, .int .i64 y] 3 (0, 0)) := heap_alloc_new _ _
  refine ⟨rfl, Nat.le_refl _, by unfold maxLen; omega, fun _ => ⟨_, 0, rfl, Nat.le_refl _, by omega, by simp, fun j hj => ?_⟩⟩
  rw [Nat.zero_add, cell_of_row _ _ j _ _ _ hh]
  obtain rfl | rfl : j = 0 ∨ j = 1 := by omega
  all_goals rfl
theorem ints_lit1g (w : World) (x : Int) {g : Nat} (hg : w.heap.size = g) : Ints g (g + 1) (w.alloc (.cells #[.int .i64 x] 3)) (some ⟨g, 0, none⟩) 1 1 [x] := by
  subst hg
  exact ints_lit1 w x
theorem ints_lit2g (w : World) (x y : Int) {g : Nat} (hg : w.heap.size = g) : Ints g (g + 1) (w.alloc (.cells #[.int .i64 x, .int .i64 y] 3)) (some ⟨g, 0, none⟩) 2 2 [x, y] := by
  subst hg
  exact ints_lit2 w x y
/-- All that the law wants of the packet of a reply. -/
theorem way_rep {x r v : Int} {ns : List Int} (s : Int) (h : makeOk x (pubL s ns.length) ns r [] = true) (h1 : 1 ≤ ns.length) (h3 : ns.length ≤ 3) (hv : 0 ≤ v ∧ v ≤ 990) :
    ∃ q : Pkt, fillOk (fstF x (pubL s ns.length) ns r) (repF x (pubL s ns.length) ns r).el (repF x (pubL s ns.length) ns r).hd (repF x (pubL s ns.length) ns r).tag [v, 7] = true ∧
      fillR (fstF x (pubL s ns.length) ns r) (repF x (pubL s ns.length) ns r).el (repF x (pubL s ns.length) ns r).hd (repF x (pubL s ns.length) ns r).tag [v, 7] = q ∧ pktOk q = true ∧
      (∀ i, i < ns.length → StepOk ((secL s ns.length).getD i 0) (wayQ (secL s ns.length) q i) ns r i) ∧
      opnOk (repF x (pubL s ns.length) ns r).bd (wayQ (secL s ns.length) q ns.length).bd = true ∧ opnF (repF x (pubL s ns.length) ns r).bd (wayQ (secL s ns.length) q ns.length).bd = [v, 7] := by
  obtain ⟨q1, q2, q3, q4, q5, q6⟩ := makeOk_iff.1 h
  have hl : packOk [v, 7] = true := pack_small [v, 7] (by intro y hy; simp at hy; omega) (by simp)
  obtain ⟨f1, f2⟩ := fill_pkt h hl
  have hb := offs_ok (keysF x (pubL s ns.length)) (packL [v, 7]) (packL_ok hl)
  have hb6 : (offsF (packL [v, 7]) (keysF x (pubL s ns.length))).length = 6 := by rw [offs_len, packL_len (packOk_iff.1 hl).2]
  obtain ⟨g1, g2⟩ := way_gen (x := x) (r := r) (ns := ns) s q2 q5 q6 hb hb6 h1 h3
  obtain ⟨o1, o2⟩ := opn_reply (x := x) (ps := pubL s ns.length) q2 q3 hl
  have hbd : (repF x (pubL s ns.length) ns r).bd = keysF x (pubL s ns.length) := by rw [repF_yes h]
  refine ⟨_, f1, f2, ?_, g1, ?_, ?_⟩
  · rw [← f2, fillR_yes f1]; exact (fillOk_iff.1 f1).2.2
  · rw [g2, hbd]; exact o1
  · rw [g2, hbd]; exact o2
theorem fill_q {f el tag : Int} {hd ls : List Int} {q : Pkt} {A B : Option Addr} {n c m d l1 h1 l2 h2 : Nat} {w : World} (h : fillOk f el hd tag ls = true ∧ fillR f el hd tag ls = q) (i1 : Ints l1 h1 w A n c hd) (hn : n ≤ 2000000) (i2 : Ints l2 h2 w B m d ls) :
    Calls Try.prog 21 #[.agg #[.int .i64 f, .int .i64 el, .slice A n c, .int .i64 tag], .slice B m d] w (PktPost q true w) := by
  have := Im10.ReplyFill f el tag hd ls A B n c m d l1 h1 l2 h2 w i1 hn i2
  rwa [h.1, h.2] at this
theorem open_q {ks bs ls : List Int} {A B : Option Addr} {n c m d l1 h1 l2 h2 : Nat} {w : World} (h : opnOk ks bs = true ∧ opnF ks bs = ls) (i1 : Ints l1 h1 w A n c ks) (i2 : Ints l2 h2 w B m d bs) :
    Calls Try.prog 23 #[.slice A n c, .slice B m d] w (PairB ls true w) := by
  have := Im10.ReplyOpen ks bs A B n c m d l1 h1 l2 h2 w i1 i2
  rwa [h.1, h.2] at this
theorem peelW (lo hi lo2 hi2 : Nat) (A B : Option Addr) (c d : Nat) (x : Int) (q : Pkt) (y : Pld) (w : World) (hh : Ints lo hi w A q.hd.length c q.hd) (hb : Ints lo2 hi2 w B q.bd.length d q.bd) (h : peelOk x q = true) (hy : peelF x q = y) :
    Calls Try.prog 22 #[.int .i64 x, .agg #[.int .i64 q.el, .slice A q.hd.length c, .int .i64 q.tag, .slice B q.bd.length d]] w (PldPost y true w) := by
  have := Im5.PacketPeel lo hi lo2 hi2 A B q.hd.length c q.bd.length d x q.el q.tag q.hd q.bd w hh hb
  have e1 : peelF x ⟨q.el, q.hd, q.tag, q.bd⟩ = y := hy
  have e2 : peelOk x ⟨q.el, q.hd, q.tag, q.bd⟩ = true := h
  rwa [e1, e2] at this
theorem repX {ps ns : List Int} {x r f : Int} {p : Pkt} {A B : Option Addr} {n c m d l1 h1 l2 h2 : Nat} {w : World} (h : makeOk x ps ns r [] = true ∧ repF x ps ns r = p ∧ fstF x ps ns r = f) (i1 : Ints l1 h1 w A n c ps) (i2 : Ints l2 h2 w B m d ns) :
    Calls Try.prog 14 #[.int .i64 x, .slice A n c, .slice B m d, .int .i64 r] w (RepPost f p true w) := by
  have := Im10.ReplyMake ps ns x r A B n c m d l1 h1 l2 h2 w i1 i2
  rwa [h.1, h.2.1, h.2.2] at this

set_option maxRecDepth 20000 in
set_option maxHeartbeats 4000000 in
theorem fnReplyWay (A : Option Addr) (n c : Nat) (A1 : Option Addr) (n1 c1 : Nat) (w : World) (h : CodeIs w A n c) :
    Calls Try.prog 4 #[.slice A n c, .slice A1 n1 c1] w (TruePost w) := by
  have HC := Lib.hid h
  clear h
  by_cases hn : 1048576 < n
  · go_enter Try.func4, Try.ntmps4
    go_wp2
    go_ret
    exact ⟨rfl, Below.refl _ _⟩
  by_cases hn1 : 1048576 < n1
  · go_enter Try.func4, Try.ntmps4
    go_wp2
    go_ret
    exact ⟨rfl, Below.refl _ _⟩
  have B : Hid (Below w.heap.size w w) := Below.refl _ _
  go_enter Try.func4, Try.ntmps4
  have hq : n ≤ 1048576 := by omega
  go_wp2_with fail
  ((with_reducible refine (DrawReplyMake _ _ _ _ HC.out).mono ?_); rintro e w1 ⟨x, r, AP, AN, cp, cn, ps, ns, rfl, hx, hl1, hl2, i1, i2, hb⟩)
  replace B := Lib.hid (B.out.trans (hb.mono B.out.size))
  have z1 := hb.size
  have IP := Lib.hid i1
  have IN := Lib.hid i2
  clear i1 i2 hb
  go_wp2_with fail
  ((with_reducible refine (Im10.ReplyMake ps ns x r _ _ _ _ _ _ _ _ _ _ _ IP.out IN.out).mono ?_); rintro e w2 ⟨AM, cm, BM, dm, g1, g2, rfl, hlie, hg1, hg2, hb⟩)
  replace IP := Lib.hid (IP.out.below hb (Nat.le_refl _))
  replace IN := Lib.hid (IN.out.below hb (Nat.le_refl _))
  replace B := Lib.hid (B.out.trans (hb.mono B.out.size))
  have z2 := hb.size
  have LM := Lib.hid hlie
  clear hlie hb
  generalize hpe : repF x ps ns r = p at *
  generalize hfe : fstF x ps ns r = f at *
  have hal : Below w2.heap.size w2 (w2.alloc (.cells #[.int .i64 f, .int .i64 p.el, .slice AM p.hd.length cm, .int .i64 p.tag] 27)) := (Below.refl _ _).alloc (Nat.le_refl _) _
  have hzz : Blk (w2.alloc (.cells #[.int .i64 f, .int .i64 p.el, .slice AM p.hd.length cm, .int .i64 p.tag] 27)) w2.heap.size #[.int .i64 f, .int .i64 p.el, .slice AM p.hd.length cm, .int .i64 p.tag] 27 := heap_alloc_new _ _
  replace IP := Lib.hid (IP.out.below hal (Nat.le_refl _))
  replace IN := Lib.hid (IN.out.below hal (Nat.le_refl _))
  replace LM := Lib.hid (LM.out.below hal (Nat.le_refl _))
  replace B := Lib.hid (B.out.trans (hal.mono B.out.size))
  have ZM := Lib.hid hzz
  clear hzz
  clear hal
  go_wp2_with fail
  ((with_reducible refine (Sp10.ReplyMake ps ns x r _ _ _ _ _ _ _ _ _ _ _ IP.out IN.out).mono ?_); rintro e w4 ⟨AS, cs, BS, ds, g3, g4, rfl, hlie, hg3, hg4, hb⟩)
  replace IP := Lib.hid (IP.out.below hb (Nat.le_refl _))
  replace IN := Lib.hid (IN.out.below hb (Nat.le_refl _))
  replace LM := Lib.hid (LM.out.below hb (Nat.le_refl _))
  replace ZM := Lib.hid (ZM.out.below hb (Nat.le_refl _))
  replace B := Lib.hid (B.out.trans (hb.mono B.out.size))
  have z4 := hb.size
  have LS := Lib.hid hlie
  clear hlie hb
  rw [hpe] at LS ⊢
  rw [hfe]
  have HPE := Lib.hid hpe
  have HFE := Lib.hid hfe
  clear hpe hfe
  have hal : Below w4.heap.size w4 (w4.alloc (.cells #[.int .i64 f, .int .i64 p.el, .slice AS p.hd.length cs, .int .i64 p.tag] 27)) := (Below.refl _ _).alloc (Nat.le_refl _) _
  have hzz : Blk (w4.alloc (.cells #[.int .i64 f, .int .i64 p.el, .slice AS p.hd.length cs, .int .i64 p.tag] 27)) w4.heap.size #[.int .i64 f, .int .i64 p.el, .slice AS p.hd.length cs, .int .i64 p.tag] 27 := heap_alloc_new _ _
  replace IP := Lib.hid (IP.out.below hal (Nat.le_refl _))
  replace IN := Lib.hid (IN.out.below hal (Nat.le_refl _))
  replace LM := Lib.hid (LM.out.below hal (Nat.le_refl _))
  replace ZM := Lib.hid (ZM.out.below hal (Nat.le_refl _))
  replace LS := Lib.hid (LS.out.below hal (Nat.le_refl _))
  replace B := Lib.hid (B.out.trans (hal.mono B.out.size))
  have ZS := Lib.hid hzz
  clear hzz
  clear hal
  cases hok : makeOk x ps ns r []
  · obtain ⟨m0, m1, m2, m3, mf⟩ := four_cells ZM.out
    obtain ⟨s0, s1, s2, s3, sf⟩ := four_cells ZS.out
    go_wp2_with fail
    ((with_reducible refine (same_bv LM.out.hdr.ints LS.out.hdr.ints).mono ?_); rintro e w6 ⟨rfl, hb⟩)
    replace IP := Lib.hid (IP.out.below hb (Nat.le_refl _))
    replace IN := Lib.hid (IN.out.below hb (Nat.le_refl _))
    replace LM := Lib.hid (LM.out.below hb (Nat.le_refl _))
    replace ZM := Lib.hid (ZM.out.below hb (Nat.le_refl _))
    replace LS := Lib.hid (LS.out.below hb (Nat.le_refl _))
    replace ZS := Lib.hid (ZS.out.below hb (Nat.le_refl _))
    replace B := Lib.hid (B.out.trans (hb.mono B.out.size))
    have z6 := hb.size
    clear hb
    clear m0 m1 m2 m3 mf s0 s1 s2 s3 sf
    go_wp2_with fail
    ((with_reducible refine (Hlp.sameInts _ _ _ _ _ _ _ _ _ _ _ _ _ LM.out.bdy.ints LS.out.bdy.ints).mono ?_); rintro e w7 ⟨rfl, hd⟩)
    have hb0 := drew_below hd
    clear hd
    replace IP := Lib.hid (IP.out.below hb0 (Nat.le_refl _))
    replace IN := Lib.hid (IN.out.below hb0 (Nat.le_refl _))
    replace LM := Lib.hid (LM.out.below hb0 (Nat.le_refl _))
    replace ZM := Lib.hid (ZM.out.below hb0 (Nat.le_refl _))
    replace LS := Lib.hid (LS.out.below hb0 (Nat.le_refl _))
    replace ZS := Lib.hid (ZS.out.below hb0 (Nat.le_refl _))
    replace B := Lib.hid (B.out.trans (hb0.mono B.out.size))
    have z7 := hb0.size
    clear hb0
    rw [decide_eq_true rfl]
    obtain ⟨m0, m1, m2, m3, mf⟩ := four_cells ZM.out
    obtain ⟨s0, s1, s2, s3, sf⟩ := four_cells ZS.out
    go_wp2_with fail
    ((with_reducible refine (same_bv LM.out.hdr.ints LS.out.hdr.ints).mono ?_); rintro e w8 ⟨rfl, hb⟩)
    replace IP := Lib.hid (IP.out.below hb (Nat.le_refl _))
    replace IN := Lib.hid (IN.out.below hb (Nat.le_refl _))
    replace LM := Lib.hid (LM.out.below hb (Nat.le_refl _))
    replace ZM := Lib.hid (ZM.out.below hb (Nat.le_refl _))
    replace LS := Lib.hid (LS.out.below hb (Nat.le_refl _))
    replace ZS := Lib.hid (ZS.out.below hb (Nat.le_refl _))
    replace B := Lib.hid (B.out.trans (hb.mono B.out.size))
    have z8 := hb.size
    clear hb
    clear m0 m1 m2 m3 mf s0 s1 s2 s3 sf
    go_wp2_with fail
    ((with_reducible refine (Hlp.sameInts _ _ _ _ _ _ _ _ _ _ _ _ _ LM.out.bdy.ints LS.out.bdy.ints).mono ?_); rintro e w9 ⟨rfl, hd⟩)
    have hb0 := drew_below hd
    clear hd
    replace IP := Lib.hid (IP.out.below hb0 (Nat.le_refl _))
    replace IN := Lib.hid (IN.out.below hb0 (Nat.le_refl _))
    replace LM := Lib.hid (LM.out.below hb0 (Nat.le_refl _))
    replace ZM := Lib.hid (ZM.out.below hb0 (Nat.le_refl _))
    replace LS := Lib.hid (LS.out.below hb0 (Nat.le_refl _))
    replace ZS := Lib.hid (ZS.out.below hb0 (Nat.le_refl _))
    replace B := Lib.hid (B.out.trans (hb0.mono B.out.size))
    have z9 := hb0.size
    clear hb0
    rw [decide_eq_true rfl]
    clear hok
    go_wp2
    go_ret
    exact ⟨rfl, B.out⟩
  obtain ⟨m0, m1, m2, m3, mf⟩ := four_cells ZM.out
  obtain ⟨s0, s1, s2, s3, sf⟩ := four_cells ZS.out
  go_wp2_with fail
  ((with_reducible refine (same_bv LM.out.hdr.ints LS.out.hdr.ints).mono ?_); rintro e w6 ⟨rfl, hb⟩)
  replace IP := Lib.hid (IP.out.below hb (Nat.le_refl _))
  replace IN := Lib.hid (IN.out.below hb (Nat.le_refl _))
  replace LM := Lib.hid (LM.out.below hb (Nat.le_refl _))
  replace ZM := Lib.hid (ZM.out.below hb (Nat.le_refl _))
  replace LS := Lib.hid (LS.out.below hb (Nat.le_refl _))
  replace ZS := Lib.hid (ZS.out.below hb (Nat.le_refl _))
  replace B := Lib.hid (B.out.trans (hb.mono B.out.size))
  have z6 := hb.size
  clear hb
  clear m0 m1 m2 m3 mf s0 s1 s2 s3 sf
  go_wp2_with fail
  ((with_reducible refine (Hlp.sameInts _ _ _ _ _ _ _ _ _ _ _ _ _ LM.out.bdy.ints LS.out.bdy.ints).mono ?_); rintro e w7 ⟨rfl, hd⟩)
  have hb0 := drew_below hd
  clear hd
  replace IP := Lib.hid (IP.out.below hb0 (Nat.le_refl _))
  replace IN := Lib.hid (IN.out.below hb0 (Nat.le_refl _))
  replace LM := Lib.hid (LM.out.below hb0 (Nat.le_refl _))
  replace ZM := Lib.hid (ZM.out.below hb0 (Nat.le_refl _))
  replace LS := Lib.hid (LS.out.below hb0 (Nat.le_refl _))
  replace ZS := Lib.hid (ZS.out.below hb0 (Nat.le_refl _))
  replace B := Lib.hid (B.out.trans (hb0.mono B.out.size))
  have z7 := hb0.size
  clear hb0
  rw [decide_eq_true rfl]
  have HK := Lib.hid hok
  clear hok
  have HIS := Lib.hid (rep_is HK.out HPE.out HFE.out)
  clear LM LS ZM ZS IP
  obtain ⟨hk2, hn1, hn3⟩ := rep_ok (n1 : Int) HK.out
  obtain ⟨q, hy1, hy2, hy3, hy4, hy5, hy6⟩ := way_rep (v := ((n1 : Int) % 900)) (n1 : Int) hk2 hn1 hn3 (by omega)
  go_wp2_with fail
  ((with_reducible refine (Sec.secrets ns.length (n1 : Int) _ hn3 (by omega) (by omega)).mono ?_); rintro e w8 ⟨AA, ca, AB, cb, rfl, ia, ib, hb⟩)
  replace IN := Lib.hid (IN.out.below hb (Nat.le_refl _))
  replace B := Lib.hid (B.out.trans (hb.mono B.out.size))
  have z8 := hb.size
  have IA := Lib.hid ia
  have IB := Lib.hid ib
  clear ia ib hb
  generalize pubL (n1 : Int) ns.length = bs at *
  generalize secL (n1 : Int) ns.length = ss at *
  obtain ⟨px, hpx⟩ : ∃ px, repF x bs ns r = px := ⟨_, rfl⟩
  obtain ⟨fx, hfx⟩ : ∃ fx, fstF x bs ns r = fx := ⟨_, rfl⟩
  have HRX := Lib.hid (And.intro hk2 (And.intro hpx hfx))
  rw [hpx] at hy1 hy2 hy5 hy6
  rw [hfx] at hy1 hy2
  have HFQ := Lib.hid (And.intro hy1 hy2)
  have HQV := Lib.hid hy3
  have HWAY := Lib.hid hy4
  have HOPN := Lib.hid (And.intro hy5 hy6)
  have h9 : px.hd.length ≤ 9 := by rw [← hpx]; exact rep_len x r bs ns
  clear hk2 hpx hfx hy1 hy2 hy3 hy4 hy5 hy6
  go_wp2_with fail
  ((with_reducible refine (repX HRX.out IB.out IN.out).mono ?_); rintro e w9 ⟨AX, cx, BX, dx, g5, g6, rfl, hlie, hg5, hg6, hb⟩)
  replace IN := Lib.hid (IN.out.below hb (Nat.le_refl _))
  replace IA := Lib.hid (IA.out.below hb (Nat.le_refl _))
  replace IB := Lib.hid (IB.out.below hb (Nat.le_refl _))
  replace B := Lib.hid (B.out.trans (hb.mono B.out.size))
  have z9 := hb.size
  have LX := Lib.hid hlie
  clear hlie hb
  have hal : Below w9.heap.size w9 (w9.alloc (.cells #[.int .i64 fx, .int .i64 px.el, .slice AX px.hd.length cx, .int .i64 px.tag] 27)) := (Below.refl _ _).alloc (Nat.le_refl _) _
  have hzz : Blk (w9.alloc (.cells #[.int .i64 fx, .int .i64 px.el, .slice AX px.hd.length cx, .int .i64 px.tag] 27)) w9.heap.size #[.int .i64 fx, .int .i64 px.el, .slice AX px.hd.length cx, .int .i64 px.tag] 27 := heap_alloc_new _ _
  replace IN := Lib.hid (IN.out.below hal (Nat.le_refl _))
  replace IA := Lib.hid (IA.out.below hal (Nat.le_refl _))
  replace IB := Lib.hid (IB.out.below hal (Nat.le_refl _))
  replace LX := Lib.hid (LX.out.below hal (Nat.le_refl _))
  replace B := Lib.hid (B.out.trans (hal.mono B.out.size))
  have ZX := Lib.hid hzz
  clear hzz
  clear hal
  have hal : Below (w9.alloc (.cells #[.int .i64 fx, .int .i64 px.el, .slice AX px.hd.length cx, .int .i64 px.tag] 27)).heap.size (w9.alloc (.cells #[.int .i64 fx, .int .i64 px.el, .slice AX px.hd.length cx, .int .i64 px.tag] 27)) ((w9.alloc (.cells #[.int .i64 fx, .int .i64 px.el, .slice AX px.hd.length cx, .int .i64 px.tag] 27)).alloc (.cells #[.int .i64 ((n1 : Int) % 900), .int .i64 7] 3)) := (Below.refl _ _).alloc (Nat.le_refl _) _
  have hzz : Blk ((w9.alloc (.cells #[.int .i64 fx, .int .i64 px.el, .slice AX px.hd.length cx, .int .i64 px.tag] 27)).alloc (.cells #[.int .i64 ((n1 : Int) % 900), .int .i64 7] 3)) (w9.alloc (.cells #[.int .i64 fx, .int .i64 px.el, .slice AX px.hd.length cx, .int .i64 px.tag] 27)).heap.size #[.int .i64 ((n1 : Int) % 900), .int .i64 7] 3 := heap_alloc_new _ _
  replace IN := Lib.hid (IN.out.below hal (Nat.le_refl _))
  replace IA := Lib.hid (IA.out.below hal (Nat.le_refl _))
  replace IB := Lib.hid (IB.out.below hal (Nat.le_refl _))
  replace LX := Lib.hid (LX.out.below hal (Nat.le_refl _))
  replace ZX := Lib.hid (ZX.out.below hal (Nat.le_refl _))
  replace B := Lib.hid (B.out.trans (hal.mono B.out.size))
  have ZV := Lib.hid hzz
  clear hzz
  clear hal
  have IV : Hid (Ints (w9.heap.size + 1) (w9.heap.size + 1 + 1) ((w9.alloc (.cells #[.int .i64 fx, .int .i64 px.el, .slice AX px.hd.length cx, .int .i64 px.tag] 27)).alloc (.cells #[.int .i64 ((n1 : Int) % 900), .int .i64 7] 3)) (some ⟨w9.heap.size + 1, 0, none⟩) 2 2 [((n1 : Int) % 900), 7]) := ints_lit2g (w9.alloc (.cells #[.int .i64 fx, .int .i64 px.el, .slice AX px.hd.length cx, .int .i64 px.tag] 27)) ((n1 : Int) % 900) 7 (by simp)
  generalize hv9 : ((n1 : Int) % 900) = v9 at *
  obtain ⟨k0, k1, k2, k3, kf⟩ := four_cells ZX.out
  go_wp2_with fail
  ((with_reducible refine (fill_q HFQ.out LX.out.hdr.ints (by omega) IV.out).mono ?_); rintro e w12 ⟨AY, cy, BY, dy, g7, g8, rfl, hlie, hg7, hg8, hb⟩)
  replace IN := Lib.hid (IN.out.below hb (Nat.le_refl _))
  replace IA := Lib.hid (IA.out.below hb (Nat.le_refl _))
  replace IB := Lib.hid (IB.out.below hb (Nat.le_refl _))
  replace LX := Lib.hid (LX.out.below hb (Nat.le_refl _))
  replace ZX := Lib.hid (ZX.out.below hb (Nat.le_refl _))
  replace ZV := Lib.hid (ZV.out.below hb (Nat.le_refl _))
  replace IV := Lib.hid (IV.out.below hb (Nat.le_refl _))
  replace B := Lib.hid (B.out.trans (hb.mono B.out.size))
  have z12 := hb.size
  have LY := Lib.hid hlie
  clear hlie hb
  clear k0 k1 k2 k3 kf
  have hqv := pktOk_iff.1 HQV.out
  have HR0 := Lib.hid (way_new LY.out (by rw [hqv.2.2.1]; decide) (by rw [hqv.2.2.2.2.2]; decide))
  clear hqv
  go_wp2
  go_loopw [24] (fun i wr => ∃ k : Nat, k ≤ ns.length ∧ i = .int .i64 k ∧ Hid (∃ A5 c5 B5 d5 g1 g2, WayR w12 wr (wayQ ss q k) A5 c5 B5 d5 g1 g2)) (fun i _ => ns.length - (intOf i).toNat)
  case atStart => exact ⟨0, Nat.zero_le _, rfl, _, _, _, _, _, _, HR0.out⟩
  case round =>
    obtain ⟨k, hk, rfl, hR⟩ := hrel
    clear HR0
    obtain ⟨A5, c5, B5, d5, t1, t2, hW⟩ := hR.out
    have HW := Lib.hid hW
    clear hW hR
    have hbw := HW.out.2.2.1
    by_cases hlt : k < ns.length
    · have HST := Lib.hid (HWAY.out k hlt)
      have hnx : wayQ ss q (k + 1) = (peelF (ss.getD k 0) (wayQ ss q k)).pk := rfl
      obtain ⟨ba, oa, rfl, _, _, cA0⟩ := IA.out.at_ hlt
      have hba : ba < w12.heap.size := World.block_lt_of_cell? w12 _ cA0
      have cA := (hbw.cell (p := ⟨ba, oa + k, none⟩) hba).trans cA0
      have HPL := Lib.hid HST.out.1
      have HS2 := Lib.hid HST.out.2
      clear cA0 HST
      generalize ss.getD k 0 = a0 at *
      generalize wayQ ss q k = qk at *
      generalize hy : peelF a0 qk = y at *
      have HY := Lib.hid hy
      have HNX := Lib.hid hnx
      clear hy hnx
      obtain ⟨m0, m1, m2, m3, mf⟩ := four_cells HW.out.1
      have P1 := Lib.hid (show Ints _ _ wr.drew A5 qk.hd.length c5 qk.hd from HW.out.2.1.hdr.ints)
      have P2 := Lib.hid (show Ints _ _ wr.drew B5 qk.bd.length d5 qk.bd from HW.out.2.1.bdy.ints)
      have hvz : Below wr.heap.size wr (wr.alloc (.cells #[.int .i64 0, .int .i64 0, .int .i64 0, .slice none 0 0, .int .i64 0, .slice none 0 0] 43)) := (Below.refl _ _).alloc (Nat.le_refl _) _
      obtain ⟨n0, n1', n2, n3, nf⟩ := four_cells (HW.out.1.below hvz (Nat.le_refl _))
      have cB := (hvz.cell (p := ⟨ba, oa + k, none⟩) (Nat.lt_of_lt_of_le hba hbw.size)).trans cA
      have hP3 := HW.out.2.1.hdr.ints.below hvz (Nat.le_refl _)
      have hP4 := HW.out.2.1.bdy.ints.below hvz (Nat.le_refl _)
      have P3 := Lib.hid (show Ints _ _ (wr.alloc (.cells #[.int .i64 0, .int .i64 0, .int .i64 0, .slice none 0 0, .int .i64 0, .slice none 0 0] 43)).drew A5 qk.hd.length c5 qk.hd from hP3)
      have P4 := Lib.hid (show Ints _ _ (wr.alloc (.cells #[.int .i64 0, .int .i64 0, .int .i64 0, .slice none 0 0, .int .i64 0, .slice none 0 0] 43)).drew B5 qk.bd.length d5 qk.bd from hP4)
      have hZ6 : Blk (wr.alloc (.cells #[.int .i64 0, .int .i64 0, .int .i64 0, .slice none 0 0, .int .i64 0, .slice none 0 0] 43)) wr.heap.size #[.int .i64 0, .int .i64 0, .int .i64 0, .slice none 0 0, .int .i64 0, .slice none 0 0] 43 := heap_alloc_new _ _
      have hsV : (wr.alloc (.cells #[.int .i64 0, .int .i64 0, .int .i64 0, .slice none 0 0, .int .i64 0, .slice none 0 0] 43)).heap.size = wr.heap.size + 1 := by simp
      have HVZ := Lib.hid hvz
      have HZ6 := Lib.hid hZ6
      have HSV := Lib.hid hsV
      clear hZ6 hsV hvz hP3 hP4
      go_wp2
      go_region_law (first
        | (go_simp; go_at_call 22; with_reducible refine (peelW _ _ _ _ _ _ _ _ a0 qk y _ P1.out P2.out HPL.out HY.out).mono ?_; intro e w50 hpp; refine pld_out hpp ?_; intro A6 c6 B6 d6 g7 g8 he; subst he; intro hlie7 hg7 hg8 hb7; clear hpp
           have HG : Hid (MidL wr (w50.alloc (.cells #[.int .i64 y.kind, .int .i64 y.next, .int .i64 y.pk.el, .slice A6 y.pk.hd.length c6, .int .i64 y.pk.tag, .slice B6 y.pk.bd.length d6] 43)) w50.heap.size y A6 c6 B6 d6 g7 g8) := midl_new hlie7 hb7
           have HGE : Hid (wr.heap.size ≤ g7 ∧ wr.heap.size ≤ g8) := ⟨hg7, hg8⟩)
        | (go_simp; go_at_call 22; with_reducible refine (peelW _ _ _ _ _ _ _ _ a0 qk y _ P3.out P4.out HPL.out HY.out).mono ?_; intro e w50 hpp; refine pld_out hpp ?_; intro A6 c6 B6 d6 g7 g8 he; subst he; intro hlie7 hg7 hg8 hb7; clear hpp
           have hzz7 := mid_blk HZ6.out hb7
           refine six_out hzz7 ?_; intro z0 z1 z2 z3 z4 z5 zf
           have HG : Hid (MidL wr ((((((w50.setCell ⟨wr.heap.size, 0, none⟩ (.int .i64 y.kind)).setCell ⟨wr.heap.size, 1, none⟩ (.int .i64 y.next)).setCell ⟨wr.heap.size, 2, none⟩ (.int .i64 y.pk.el)).setCell ⟨wr.heap.size, 3, none⟩ (.slice A6 y.pk.hd.length c6)).setCell ⟨wr.heap.size, 4, none⟩ (.int .i64 y.pk.tag)).setCell ⟨wr.heap.size, 5, none⟩ (.slice B6 y.pk.bd.length d6)) wr.heap.size y A6 c6 B6 d6 g7 g8) := midl_set HVZ.out hlie7 hb7 hzz7 (Nat.le_refl _) (by have := HSV.out; omega) hg7 hg8
           have HGE : Hid (wr.heap.size ≤ g7 ∧ wr.heap.size ≤ g8) := ⟨Nat.le_trans HVZ.out.size hg7, Nat.le_trans HVZ.out.size hg8⟩)
        | (trace_state; fail))
      all_goals
        first
          | (have hmk : Hid (MidL wr (w50.alloc (.cells #[.int .i64 y.kind, .int .i64 y.next, .int .i64 y.pk.el, .slice A6 y.pk.hd.length c6, .int .i64 y.pk.tag, .slice B6 y.pk.bd.length d6] 43)) (w50.heap.size) y A6 c6 B6 d6 g7 g8) := by with_reducible exact HG
             clear hmk; generalize (w50.alloc (.cells #[.int .i64 y.kind, .int .i64 y.next, .int .i64 y.pk.el, .slice A6 y.pk.hd.length c6, .int .i64 y.pk.tag, .slice B6 y.pk.bd.length d6] 43)) = w51 at HG ⊢; generalize hgh : w50.heap.size = gg at HG ⊢)
          | (have hmk : Hid (MidL wr ((((((w50.setCell ⟨wr.heap.size, 0, none⟩ (.int .i64 y.kind)).setCell ⟨wr.heap.size, 1, none⟩ (.int .i64 y.next)).setCell ⟨wr.heap.size, 2, none⟩ (.int .i64 y.pk.el)).setCell ⟨wr.heap.size, 3, none⟩ (.slice A6 y.pk.hd.length c6)).setCell ⟨wr.heap.size, 4, none⟩ (.int .i64 y.pk.tag)).setCell ⟨wr.heap.size, 5, none⟩ (.slice B6 y.pk.bd.length d6)) (wr.heap.size) y A6 c6 B6 d6 g7 g8) := by with_reducible exact HG
             clear hmk; generalize ((((((w50.setCell ⟨wr.heap.size, 0, none⟩ (.int .i64 y.kind)).setCell ⟨wr.heap.size, 1, none⟩ (.int .i64 y.next)).setCell ⟨wr.heap.size, 2, none⟩ (.int .i64 y.pk.el)).setCell ⟨wr.heap.size, 3, none⟩ (.slice A6 y.pk.hd.length c6)).setCell ⟨wr.heap.size, 4, none⟩ (.int .i64 y.pk.tag)).setCell ⟨wr.heap.size, 5, none⟩ (.slice B6 y.pk.bd.length d6)) = w51 at HG ⊢; generalize hgh : wr.heap.size = gg at HG ⊢)
        have hbx := HG.out.2.2
        have hbz := hbw.trans (hbx.mono hbw.size)
        obtain ⟨x0, x1, x2, x3, x4, x5, xf⟩ := six_cells HG.out.1
        have hZW : Blk w51 w12.heap.size #[.int .i64 qk.el, .slice A5 qk.hd.length c5, .int .i64 qk.tag, .slice B5 qk.bd.length d5] 39 := HW.out.1.below hbx (Nat.le_refl _)
        obtain ⟨o0, o1, o2, o3, of⟩ := four_cells hZW
        have hgs : w12.heap.size < wr.heap.size := (Array.getElem?_eq_some_iff.1 HW.out.1).1
        have HWS : Hid (WayR w12 ((((w51.setCell ⟨w12.heap.size, 0, none⟩ (.int .i64 y.pk.el)).setCell ⟨w12.heap.size, 1, none⟩ (.slice A6 y.pk.hd.length c6)).setCell ⟨w12.heap.size, 2, none⟩ (.int .i64 y.pk.tag)).setCell ⟨w12.heap.size, 3, none⟩ (.slice B6 y.pk.bd.length d6)) y.pk A6 c6 B6 d6 g7 g8) := way_set hZW HG.out.2.1 hbz (by have := HGE.out; omega) (by have := HGE.out; omega)
        by_cases hk1 : k + 1 < ns.length
        · have d2 : ((k : Int) + 1 == (ns.length : Int)) = false := by simp; omega
          clear HG HZ6 HVZ HSV P1 P2 P3 P4 hZW m0 m1 m2 m3 mf n0 n1' n2 n3 nf cA cB
          go_wp2
          go_roundw
          case rel => exact ⟨k + 1, by omega, by go_num, A6, c6, B6, d6, g7, g8, by rw [HNX.out]; with_reducible exact HWS.out⟩
          case measure => simp [intOf]; omega
        · obtain ⟨e1, e2⟩ := HS2.out.2 (by omega)
          rw [e1] at x0
          rw [e2] at x1
          have d2 : ((k : Int) + 1 == (ns.length : Int)) = true := by simp; omega
          have dx : (r != r) = false := by simp
          clear HG HZ6 HVZ HSV P1 P2 P3 P4 hZW m0 m1 m2 m3 mf n0 n1' n2 n3 nf cA cB
          go_wp2
          go_roundw
          case rel => exact ⟨k + 1, by omega, by go_num, A6, c6, B6, d6, g7, g8, by rw [HNX.out]; with_reducible exact HWS.out⟩
          case measure => simp [intOf]; omega
    · obtain rfl : k = ns.length := by omega
      have HI := Lib.hid HW.out.2.1.bdy.ints
      obtain ⟨m0, m1, m2, m3, mf⟩ := four_cells HW.out.1
      have HV := Lib.hid (IV.out.below hbw (Nat.le_refl _))
      have HKX := Lib.hid (LX.out.bdy.ints.below hbw (Nat.le_refl _))
      have HBR := Lib.hid (B.out.trans (hbw.mono B.out.size))
      generalize (wayQ ss q ns.length) = qe at *
      go_wp2_with fail
      ((with_reducible refine (open_q HOPN.out HKX.out HI.out).mono ?_); rintro e w70 ⟨A7, c7, rfl, ho7, hb7⟩)
      have HO7 : Hid (Ints _ _ w70 A7 2 c7 [v9, 7]) := ho7.ints
      have HV7 := Lib.hid (HV.out.below hb7 (Nat.le_refl _))
      have HB7 := Lib.hid (HBR.out.trans (hb7.mono HBR.out.size))
      clear ho7 hb7 HV HI HBR HKX m0 m1 m2 m3 mf
      go_wp2_with fail
      ((with_reducible refine (Hlp.sameInts _ _ _ _ _ _ _ _ _ _ _ _ _ HO7.out HV7.out).mono ?_); rintro e w71 ⟨rfl, nn, rfl⟩)
      rw [decide_eq_true rfl]
      go_wp2
      go_ret
      exact ⟨rfl, HB7.out.os, HB7.out.tape, HB7.out.output, HB7.out.size, HB7.out.block⟩

end Law10w
end Go.Proofs.Ytljfhddgifacnaa
