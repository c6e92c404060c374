/-
  The law of chapter 5 on the way of packets, by the contracts of the functions that it calls: it returns true and writes nothing that was there.
-/
import Derived.Test.YtdejnbbfdbafnaaLaw5s
import Derived.Test.YtdejnbbfdbafnaaIm4
namespace Go.Proofs.Ytdejnbbfdbafnaa
open Go.RowKit
namespace Law5v
open Gm Mm Tm Lm Pm Po Pq Il Rd Hlp5 LawB Sec Law5s

/-- The packet on its way. -/
def wayQ (ss : List Int) (q : Pkt) : Nat → Pkt
  | 0 => q
  | i + 1 => (peelF (ss.getD i 0) (wayQ ss q i)).pk
def StepOk (a : Int) (q : Pkt) (ns : List Int) (r : Int) (i : Nat) : Prop :=
  peelOk a q = true ∧ (i + 1 < ns.length → (peelF a q).kind = 0 ∧ (peelF a q).next = ns.getD (i + 1) 0) ∧ (i + 1 = ns.length → (peelF a q).kind = 1 ∧ (peelF a q).next = r)
theorem way_all {x r : Int} {ns ls : List Int} (s : Int) (h : makeOk x (pubL s ns.length) ns r ls = true) (h1 : 1 ≤ ns.length) (h3 : ns.length ≤ 3) :
    (∀ i, i < ns.length → StepOk ((secL s ns.length).getD i 0) (wayQ (secL s ns.length) (makeF x (pubL s ns.length) ns r ls) i) ns r i) ∧
    (wayQ (secL s ns.length) (makeF x (pubL s ns.length) ns r ls) ns.length).bd = packL ls := by
  obtain ⟨q1, q2, q3, q4, q5, q6⟩ := makeOk_iff.1 h
  rw [makeF_yes h]
  have hb := packL_ok q1
  have hb6 := packL_len (packOk_iff.1 q1).2
  have he : ∀ i : Int, inG (1 + (s * 29 + i * 101 + 3) % 996) = true := fun i => inG_iff.2 (by omega)
  have g0 := he ((0 : Nat) : Int)
  have g1 := he ((1 : Nat) : Int)
  have g2 := he ((2 : Nat) : Int)
  match ns, h1, h3 with
  | [a], _, _ =>
    have hs : secL s [a].length = [1 + (s * 29 + ((0 : Nat) : Int) * 101 + 3) % 996] := rfl
    have hp : pubL s [a].length = [mulG (1 + (s * 29 + ((0 : Nat) : Int) * 101 + 3) % 996) 5] := rfl
    rw [hs, hp]
    clear hs hp
    generalize 1 + (s * 29 + ((0 : Nat) : Int) * 101 + 3) % 996 = e0 at *
    obtain ⟨t1, t2, t3, t4⟩ := step_last (x := x) (a := e0) (r := r) (names := [a]) (f := fillF (keysF x [mulG e0 5])) (b := packL ls) (pre := []) q2 g0 (by simp) rfl q6 hb hb6
    have t5 := peelF_yes t1
    refine ⟨fun i hi => ?_, ?_⟩
    · obtain rfl : i = 0 := by simp at hi; omega
      refine ⟨t1, fun hh => by simp at hh, fun _ => ?_⟩
      show (peelF e0 _).kind = 1 ∧ (peelF e0 _).next = r
      rw [show wayQ [e0] (pkt x [mulG e0 5] [a] r (fillF (keysF x [mulG e0 5])) (packL ls)) 0 = pkt x [mulG e0 5] [a] r (fillF (keysF x [mulG e0 5])) (packL ls) from rfl, t5]
      exact ⟨t2, t3⟩
    · show (peelF e0 (pkt x [mulG e0 5] [a] r (fillF (keysF x [mulG e0 5])) (packL ls))).pk.bd = packL ls
      rw [t5]; exact t4
  | [a, a2], _, _ =>
    have hn2 : inName a2 = true := q5 a2 (by simp)
    have hs : secL s [a, a2].length = [1 + (s * 29 + ((0 : Nat) : Int) * 101 + 3) % 996, 1 + (s * 29 + ((1 : Nat) : Int) * 101 + 3) % 996] := rfl
    have hp : pubL s [a, a2].length = [mulG (1 + (s * 29 + ((0 : Nat) : Int) * 101 + 3) % 996) 5, mulG (1 + (s * 29 + ((1 : Nat) : Int) * 101 + 3) % 996) 5] := rfl
    rw [hs, hp]
    clear hs hp
    generalize 1 + (s * 29 + ((0 : Nat) : Int) * 101 + 3) % 996 = e0 at *
    generalize 1 + (s * 29 + ((1 : Nat) : Int) * 101 + 3) % 996 = e1 at *
    have hx2 : inG (mulG x (facG (mulG x (mulG e0 5)))) = true := mulG_pos q2 (facG_pos (mulG_pos q2 (mulG_pos g0 (by decide))))
    generalize hf : fillF (keysF x [mulG e0 5, mulG e1 5]) = f
    obtain ⟨t1, t2⟩ := step_next (x := x) (a := e0) (a2 := e1) (r := r) («as» := []) (names := [a, a2]) (f := f) (b := packL ls) (pre := []) q2 g0 (by simp) hf.symm hn2 hb hb6
    have t5 := (peelF_yes t1).trans t2
    obtain ⟨u1, u2, u3, u4⟩ := step_last (x := mulG x (facG (mulG x (mulG e0 5)))) (a := e1) (r := r) (names := [a2]) (f := f) (b := packL ls) (pre := [mulG x (mulG e0 5)]) hx2 g1 (by simp) hf.symm q6 hb hb6
    have u5 := peelF_yes u1
    have w0 : wayQ [e0, e1] (pkt x [mulG e0 5, mulG e1 5] [a, a2] r f (packL ls)) 1 = pkt (mulG x (facG (mulG x (mulG e0 5)))) [mulG e1 5] [a2] r f (packL ls) := by
      show (peelF e0 (pkt x [mulG e0 5, mulG e1 5] [a, a2] r f (packL ls))).pk = _
      exact congrArg Pld.pk t5
    refine ⟨fun i hi => ?_, ?_⟩
    · obtain rfl | rfl : i = 0 ∨ i = 1 := by simp at hi; omega
      · refine ⟨t1, fun _ => ?_, fun hh => by simp at hh⟩
        exact ⟨congrArg Pld.kind t5, congrArg Pld.next t5⟩
      · rw [w0]
        refine ⟨u1, fun hh => by simp at hh, fun _ => ?_⟩
        show (peelF e1 _).kind = 1 ∧ (peelF e1 _).next = r
        rw [u5]
        exact ⟨u2, u3⟩
    · show (peelF e1 (wayQ [e0, e1] (pkt x [mulG e0 5, mulG e1 5] [a, a2] r f (packL ls)) 1)).pk.bd = packL ls
      rw [w0, u5]; exact u4
  | [a, a2, a3], _, _ =>
    have hn2 : inName a2 = true := q5 a2 (by simp)
    have hn3 : inName a3 = true := q5 a3 (by simp)
    have hs : secL s [a, a2, a3].length = [1 + (s * 29 + ((0 : Nat) : Int) * 101 + 3) % 996, 1 + (s * 29 + ((1 : Nat) : Int) * 101 + 3) % 996, 1 + (s * 29 + ((2 : Nat) : Int) * 101 + 3) % 996] := rfl
    have hp : pubL s [a, a2, a3].length = [mulG (1 + (s * 29 + ((0 : Nat) : Int) * 101 + 3) % 996) 5, mulG (1 + (s * 29 + ((1 : Nat) : Int) * 101 + 3) % 996) 5, mulG (1 + (s * 29 + ((2 : Nat) : Int) * 101 + 3) % 996) 5] := rfl
    rw [hs, hp]
    clear hs hp
    generalize 1 + (s * 29 + ((0 : Nat) : Int) * 101 + 3) % 996 = e0 at *
    generalize 1 + (s * 29 + ((1 : Nat) : Int) * 101 + 3) % 996 = e1 at *
    generalize 1 + (s * 29 + ((2 : Nat) : Int) * 101 + 3) % 996 = e2 at *
    have hx2 : inG (mulG x (facG (mulG x (mulG e0 5)))) = true := mulG_pos q2 (facG_pos (mulG_pos q2 (mulG_pos g0 (by decide))))
    generalize hf : fillF (keysF x [mulG e0 5, mulG e1 5, mulG e2 5]) = f
    obtain ⟨t1, t2⟩ := step_next (x := x) (a := e0) (a2 := e1) (r := r) («as» := [e2]) (names := [a, a2, a3]) (f := f) (b := packL ls) (pre := []) q2 g0 (by simp) hf.symm hn2 hb hb6
    have t5 := (peelF_yes t1).trans t2
    have hf2 : f = (([mulG x (mulG e0 5)] ++ keysF (mulG x (facG (mulG x (mulG e0 5)))) [mulG e1 5, mulG e2 5]).dropLast).foldl fillStep [] := hf.symm
    generalize mulG x (facG (mulG x (mulG e0 5))) = x2 at *
    have hx3 : inG (mulG x2 (facG (mulG x2 (mulG e1 5)))) = true := mulG_pos hx2 (facG_pos (mulG_pos hx2 (mulG_pos g1 (by decide))))
    obtain ⟨v1, v2⟩ := step_next (x := x2) (a := e1) (a2 := e2) (r := r) («as» := []) (names := [a2, a3]) (f := f) (b := packL ls) (pre := [mulG x (mulG e0 5)]) hx2 g1 (by simp) hf2 hn3 hb hb6
    have v5 := (peelF_yes v1).trans v2
    obtain ⟨u1, u2, u3, u4⟩ := step_last (x := mulG x2 (facG (mulG x2 (mulG e1 5)))) (a := e2) (r := r) (names := [a3]) (f := f) (b := packL ls) (pre := [mulG x (mulG e0 5), mulG x2 (mulG e1 5)]) hx3 g2 (by simp) hf2 q6 hb hb6
    have u5 := peelF_yes u1
    have w0 : wayQ [e0, e1, e2] (pkt x [mulG e0 5, mulG e1 5, mulG e2 5] [a, a2, a3] r f (packL ls)) 1 = pkt x2 [mulG e1 5, mulG e2 5] [a2, a3] r f (packL ls) := by
      show (peelF e0 (pkt x [mulG e0 5, mulG e1 5, mulG e2 5] [a, a2, a3] r f (packL ls))).pk = _
      exact congrArg Pld.pk t5
    have w1 : wayQ [e0, e1, e2] (pkt x [mulG e0 5, mulG e1 5, mulG e2 5] [a, a2, a3] r f (packL ls)) 2 = pkt (mulG x2 (facG (mulG x2 (mulG e1 5)))) [mulG e2 5] [a3] r f (packL ls) := by
      show (peelF e1 (wayQ [e0, e1, e2] (pkt x [mulG e0 5, mulG e1 5, mulG e2 5] [a, a2, a3] r f (packL ls)) 1)).pk = _
      rw [w0]
      exact congrArg Pld.pk v5
    refine ⟨fun i hi => ?_, ?_⟩
    · obtain rfl | rfl | rfl : i = 0 ∨ i = 1 ∨ i = 2 := by simp at hi; omega
      · refine ⟨t1, fun _ => ?_, fun hh => by simp at hh⟩
        exact ⟨congrArg Pld.kind t5, congrArg Pld.next t5⟩
      · rw [w0]
        refine ⟨v1, fun _ => ?_, fun hh => by simp at hh⟩
        exact ⟨congrArg Pld.kind v5, congrArg Pld.next v5⟩
      · rw [w1]
        refine ⟨u1, fun hh => by simp at hh, fun _ => ?_⟩
        show (peelF e2 _).kind = 1 ∧ (peelF e2 _).next = r
        rw [u5]
        exact ⟨u2, u3⟩
    · show (peelF e2 (wayQ [e0, e1, e2] (pkt x [mulG e0 5, mulG e1 5, mulG e2 5] [a, a2, a3] r f (packL ls)) 2)).pk.bd = packL ls
      rw [w1, u5]; exact u4
/-- The packet on its way lies in the block that was laid first. -/
def WayR (w0 wr : World) (q : Pkt) (A : Option Addr) (c : Nat) (B : Option Addr) (d b1 b2 : Nat) : Prop :=
  Blk wr w0.heap.size #[.int .i64 q.el, .slice A q.hd.length c, .int .i64 q.tag, .slice B q.bd.length d] 27 ∧ Lies wr b1 b2 A c B d q ∧ Below w0.heap.size w0 wr ∧ w0.heap.size ≠ b1 ∧ w0.heap.size ≠ b2
theorem way_new {w0 : World} {q : Pkt} {A B : Option Addr} {c d b1 b2 : Nat} (hl : Lies w0 b1 b2 A c B d q) (h9 : 0 < q.hd.length) (h6 : 0 < q.bd.length) :
    WayR w0 (w0.alloc (.cells #[.int .i64 q.el, .slice A q.hd.length c, .int .i64 q.tag, .slice B q.bd.length d] 27)) q A c B d b1 b2 := by
  have hal : Below w0.heap.size w0 (w0.alloc (.cells #[.int .i64 q.el, .slice A q.hd.length c, .int .i64 q.tag, .slice B q.bd.length d] 27)) := (Below.refl _ _).alloc (Nat.le_refl _) _
  obtain ⟨z1, _, _, h1, h2, h3, _⟩ := hl.1.1.2.2.2 h9
  obtain ⟨z2, _, _, h4, h5, h7, _⟩ := hl.2.1.1.2.2.2 h6
  exact ⟨heap_alloc_new _ _, hl.below hal (Nat.le_refl _), hal, by omega, by omega⟩
theorem way_set {w0 w' : World} {q : Pkt} {A B : Option Addr} {c d b1 b2 : Nat} {u0 u1 u2 u3 : Value} (hz : Blk w' w0.heap.size #[u0, u1, u2, u3] 27) (hl : Lies w' b1 b2 A c B d q) (hb : Below w0.heap.size w0 w') (n1 : w0.heap.size ≠ b1) (n2 : w0.heap.size ≠ b2) :
    WayR w0 ((((w'.setCell ⟨w0.heap.size, 0, none⟩ (.int .i64 q.el)).setCell ⟨w0.heap.size, 1, none⟩ (.slice A q.hd.length c)).setCell ⟨w0.heap.size, 2, none⟩ (.int .i64 q.tag)).setCell ⟨w0.heap.size, 3, none⟩ (.slice B q.bd.length d)) q A c B d b1 b2 := by
  obtain ⟨s1, s2, s3⟩ := set4 (v0 := .int .i64 q.el) (v1 := .slice A q.hd.length c) (v2 := .int .i64 q.tag) (v3 := .slice B q.bd.length d) hz
  have hfar : ∀ i, i ≠ w0.heap.size → ((((w'.setCell ⟨w0.heap.size, 0, none⟩ (.int .i64 q.el)).setCell ⟨w0.heap.size, 1, none⟩ (.slice A q.hd.length c)).setCell ⟨w0.heap.size, 2, none⟩ (.int .i64 q.tag)).setCell ⟨w0.heap.size, 3, none⟩ (.slice B q.bd.length d)).heap[i]? = w'.heap[i]? := fun i hi => (Below.heap_setCell _ _ _ _ hi).trans ((Below.heap_setCell _ _ _ _ hi).trans ((Below.heap_setCell _ _ _ _ hi).trans (Below.heap_setCell _ _ _ _ hi)))
  clear hz
  generalize ((((w'.setCell ⟨w0.heap.size, 0, none⟩ (.int .i64 q.el)).setCell ⟨w0.heap.size, 1, none⟩ (.slice A q.hd.length c)).setCell ⟨w0.heap.size, 2, none⟩ (.int .i64 q.tag)).setCell ⟨w0.heap.size, 3, none⟩ (.slice B q.bd.length d)) = W at s1 s2 s3 hfar ⊢
  exact ⟨s1, lies_ne hl n1 n2 W (Nat.le_of_eq s2.symm) hfar, hb.trans (s3 _ (Nat.le_refl _)), n1, n2⟩
theorem WayR.dn {w0 wr : World} {q : Pkt} {A B : Option Addr} {c d b1 b2 : Nat} (h : WayR w0 wr q A c B d b1 b2) (n : Nat) : WayR w0 (wr.drewN n) q A c B d b1 b2 :=
  ⟨h.1, h.2.1, h.2.2.1.trans ⟨rfl, rfl, rfl, Nat.le_refl _, fun _ _ => rfl⟩, h.2.2.2⟩
theorem way_setd {w0 w' : World} {q : Pkt} {A B : Option Addr} {c d b1 b2 : Nat} {u0 u1 u2 u3 : Value} (hz : Blk w' w0.heap.size #[u0, u1, u2, u3] 27) (hl : Lies w' b1 b2 A c B d q) (hb : Below w0.heap.size w0 w') (n1 : w0.heap.size ≠ b1) (n2 : w0.heap.size ≠ b2) (n : Nat) :
    WayR w0 (((((w'.drewN n).setCell ⟨w0.heap.size, 0, none⟩ (.int .i64 q.el)).setCell ⟨w0.heap.size, 1, none⟩ (.slice A q.hd.length c)).setCell ⟨w0.heap.size, 2, none⟩ (.int .i64 q.tag)).setCell ⟨w0.heap.size, 3, none⟩ (.slice B q.bd.length d)) q A c B d b1 b2 :=
  way_set (w' := w'.drewN n) hz hl (hb.trans ⟨rfl, rfl, rfl, Nat.le_refl _, fun _ _ => rfl⟩) n1 n2
set_option maxRecDepth 20000 in
set_option maxHeartbeats 4000000 in
theorem fnPacketWay (A : Option Addr) (n c : Nat) (A1 : Option Addr) (n1 c1 : Nat) (w : World) (h : CodeIs w A n c) :
    Calls Try.prog 5 #[.slice A n c, .slice A1 n1 c1] w (TruePost w) := by
  have HC := Lib.hid h
  clear h
  by_cases hn : 1048576 < n
  · go_enter Try.func5, Try.ntmps5
    go_wp2
    go_ret
    exact ⟨rfl, Below.refl _ _⟩
  by_cases hn1 : 1048576 < n1
  · go_enter Try.func5, Try.ntmps5
    go_wp2
    go_ret
    exact ⟨rfl, Below.refl _ _⟩
  have B : Hid (Below w.heap.size w w) := Below.refl _ _
  go_enter Try.func5, Try.ntmps5
  have hq : n ≤ 1048576 := by omega
  go_wp2_with fail
  ((with_reducible refine (DrawPacketMake _ _ _ _ HC.out).mono ?_); rintro e w1 ⟨x, r, AP, AN, AL, cp, cn, cl, ps, ns, ls, rfl, hx, hl1, hl2, hl3, i1, i2, i3, hb⟩)
  replace B := Lib.hid (B.out.trans (hb.mono B.out.size))
  have z1 := hb.size
  have IP := Lib.hid i1
  have IN := Lib.hid i2
  have IL := Lib.hid i3
  clear i1 i2 i3 hb
  go_wp2_with fail
  ((with_reducible refine (Im5.PacketMake _ _ _ _ _ _ _ _ _ _ _ _ _ _ _ ps ns ls x r _ IP.out IN.out IL.out).mono ?_); rintro e w2 ⟨AM, cm, BM, dm, g1, g2, rfl, hlie, hg1, hg2, hb⟩)
  replace IP := Lib.hid (IP.out.below hb (Nat.le_refl _))
  replace IN := Lib.hid (IN.out.below hb (Nat.le_refl _))
  replace IL := Lib.hid (IL.out.below hb (Nat.le_refl _))
  replace B := Lib.hid (B.out.trans (hb.mono B.out.size))
  have z2 := hb.size
  have LM := Lib.hid hlie
  clear hlie hb
  generalize hpe : makeF x ps ns r ls = p at *
  have hal : Below w2.heap.size w2 (w2.alloc (.cells #[.int .i64 p.el, .slice AM p.hd.length cm, .int .i64 p.tag, .slice BM p.bd.length dm] 27)) := (Below.refl _ _).alloc (Nat.le_refl _) _
  have hzz : Blk (w2.alloc (.cells #[.int .i64 p.el, .slice AM p.hd.length cm, .int .i64 p.tag, .slice BM p.bd.length dm] 27)) w2.heap.size #[.int .i64 p.el, .slice AM p.hd.length cm, .int .i64 p.tag, .slice BM p.bd.length dm] 27 := heap_alloc_new _ _
  replace IP := Lib.hid (IP.out.below hal (Nat.le_refl _))
  replace IN := Lib.hid (IN.out.below hal (Nat.le_refl _))
  replace IL := Lib.hid (IL.out.below hal (Nat.le_refl _))
  replace LM := Lib.hid (LM.out.below hal (Nat.le_refl _))
  replace B := Lib.hid (B.out.trans (hal.mono B.out.size))
  have ZM := Lib.hid hzz
  clear hzz
  clear hal
  go_wp2_with fail
  ((with_reducible refine (Sp5.PacketMake _ _ _ _ _ _ _ _ _ _ _ _ _ _ _ ps ns ls x r _ IP.out IN.out IL.out).mono ?_); rintro e w4 ⟨AS, cs, BS, ds, g3, g4, rfl, hlie, hg3, hg4, hb⟩)
  replace IP := Lib.hid (IP.out.below hb (Nat.le_refl _))
  replace IN := Lib.hid (IN.out.below hb (Nat.le_refl _))
  replace IL := Lib.hid (IL.out.below hb (Nat.le_refl _))
  replace LM := Lib.hid (LM.out.below hb (Nat.le_refl _))
  replace ZM := Lib.hid (ZM.out.below hb (Nat.le_refl _))
  replace B := Lib.hid (B.out.trans (hb.mono B.out.size))
  have z4 := hb.size
  have LS := Lib.hid hlie
  clear hlie hb
  rw [hpe] at LS ⊢
  have HPE := Lib.hid hpe
  clear hpe
  have hal : Below w4.heap.size w4 (w4.alloc (.cells #[.int .i64 p.el, .slice AS p.hd.length cs, .int .i64 p.tag, .slice BS p.bd.length ds] 27)) := (Below.refl _ _).alloc (Nat.le_refl _) _
  have hzz : Blk (w4.alloc (.cells #[.int .i64 p.el, .slice AS p.hd.length cs, .int .i64 p.tag, .slice BS p.bd.length ds] 27)) w4.heap.size #[.int .i64 p.el, .slice AS p.hd.length cs, .int .i64 p.tag, .slice BS p.bd.length ds] 27 := heap_alloc_new _ _
  replace IP := Lib.hid (IP.out.below hal (Nat.le_refl _))
  replace IN := Lib.hid (IN.out.below hal (Nat.le_refl _))
  replace IL := Lib.hid (IL.out.below hal (Nat.le_refl _))
  replace LM := Lib.hid (LM.out.below hal (Nat.le_refl _))
  replace ZM := Lib.hid (ZM.out.below hal (Nat.le_refl _))
  replace LS := Lib.hid (LS.out.below hal (Nat.le_refl _))
  replace B := Lib.hid (B.out.trans (hal.mono B.out.size))
  have ZS := Lib.hid hzz
  clear hzz
  clear hal
  cases hok : makeOk x ps ns r ls
  · obtain ⟨m0, m1, m2, m3, mf⟩ := four_cells ZM.out
    obtain ⟨s0, s1, s2, s3, sf⟩ := four_cells ZS.out
    go_wp2_with fail
    ((with_reducible refine (samePacket p _ _ _ _ _ _ _ _ _ _ _ _ _ _ _ _ _ LM.out.hdr.ints LM.out.bdy.ints LS.out.hdr.ints LS.out.bdy.ints).mono ?_); rintro e w6 ⟨rfl, hb⟩)
    replace IP := Lib.hid (IP.out.below hb (Nat.le_refl _))
    replace IN := Lib.hid (IN.out.below hb (Nat.le_refl _))
    replace IL := Lib.hid (IL.out.below hb (Nat.le_refl _))
    replace LM := Lib.hid (LM.out.below hb (Nat.le_refl _))
    replace ZM := Lib.hid (ZM.out.below hb (Nat.le_refl _))
    replace LS := Lib.hid (LS.out.below hb (Nat.le_refl _))
    replace ZS := Lib.hid (ZS.out.below hb (Nat.le_refl _))
    replace B := Lib.hid (B.out.trans (hb.mono B.out.size))
    have z6 := hb.size
    clear hb
    clear m0 m1 m2 m3 mf s0 s1 s2 s3 sf
    obtain ⟨m0, m1, m2, m3, mf⟩ := four_cells ZM.out
    obtain ⟨s0, s1, s2, s3, sf⟩ := four_cells ZS.out
    go_wp2_with fail
    ((with_reducible refine (samePacket p _ _ _ _ _ _ _ _ _ _ _ _ _ _ _ _ _ LM.out.hdr.ints LM.out.bdy.ints LS.out.hdr.ints LS.out.bdy.ints).mono ?_); rintro e w7 ⟨rfl, hb⟩)
    replace IP := Lib.hid (IP.out.below hb (Nat.le_refl _))
    replace IN := Lib.hid (IN.out.below hb (Nat.le_refl _))
    replace IL := Lib.hid (IL.out.below hb (Nat.le_refl _))
    replace LM := Lib.hid (LM.out.below hb (Nat.le_refl _))
    replace ZM := Lib.hid (ZM.out.below hb (Nat.le_refl _))
    replace LS := Lib.hid (LS.out.below hb (Nat.le_refl _))
    replace ZS := Lib.hid (ZS.out.below hb (Nat.le_refl _))
    replace B := Lib.hid (B.out.trans (hb.mono B.out.size))
    have z7 := hb.size
    clear hb
    clear m0 m1 m2 m3 mf s0 s1 s2 s3 sf
    clear hok
    go_wp2
    go_ret
    exact ⟨rfl, B.out⟩
  obtain ⟨m0, m1, m2, m3, mf⟩ := four_cells ZM.out
  obtain ⟨s0, s1, s2, s3, sf⟩ := four_cells ZS.out
  go_wp2_with fail
  ((with_reducible refine (samePacket p _ _ _ _ _ _ _ _ _ _ _ _ _ _ _ _ _ LM.out.hdr.ints LM.out.bdy.ints LS.out.hdr.ints LS.out.bdy.ints).mono ?_); rintro e w6 ⟨rfl, hb⟩)
  replace IP := Lib.hid (IP.out.below hb (Nat.le_refl _))
  replace IN := Lib.hid (IN.out.below hb (Nat.le_refl _))
  replace IL := Lib.hid (IL.out.below hb (Nat.le_refl _))
  replace LM := Lib.hid (LM.out.below hb (Nat.le_refl _))
  replace ZM := Lib.hid (ZM.out.below hb (Nat.le_refl _))
  replace LS := Lib.hid (LS.out.below hb (Nat.le_refl _))
  replace ZS := Lib.hid (ZS.out.below hb (Nat.le_refl _))
  replace B := Lib.hid (B.out.trans (hb.mono B.out.size))
  have z6 := hb.size
  clear hb
  clear m0 m1 m2 m3 mf s0 s1 s2 s3 sf
  have HK := Lib.hid hok
  clear hok
  clear LM LS ZM ZS IP
  obtain ⟨hk2, hn1, hn3⟩ := way_ok (n1 : Int) HK.out
  have HK2 := Lib.hid hk2
  have HWAY := Lib.hid (way_all (n1 : Int) hk2 hn1 hn3)
  clear hk2
  go_wp2_with fail
  ((with_reducible refine (Sec.secrets ns.length (n1 : Int) _ hn3 (by omega) (by omega)).mono ?_); rintro e w7 ⟨AA, ca, AB, cb, rfl, ia, ib, hb⟩)
  replace IN := Lib.hid (IN.out.below hb (Nat.le_refl _))
  replace IL := Lib.hid (IL.out.below hb (Nat.le_refl _))
  replace B := Lib.hid (B.out.trans (hb.mono B.out.size))
  have z7 := hb.size
  have IA := Lib.hid ia
  have IB := Lib.hid ib
  clear ia ib hb
  generalize pubL (n1 : Int) ns.length = bs at *
  generalize secL (n1 : Int) ns.length = ss at *
  go_wp2_with fail
  ((with_reducible refine (Im5.PacketMake _ _ _ _ _ _ _ _ _ _ _ _ _ _ _ bs ns ls x r _ IB.out IN.out IL.out).mono ?_); rintro e w8 ⟨AX, cx, BX, dx, g5, g6, rfl, hlie, hg5, hg6, hb⟩)
  replace IN := Lib.hid (IN.out.below hb (Nat.le_refl _))
  replace IL := Lib.hid (IL.out.below hb (Nat.le_refl _))
  replace IA := Lib.hid (IA.out.below hb (Nat.le_refl _))
  replace IB := Lib.hid (IB.out.below hb (Nat.le_refl _))
  replace B := Lib.hid (B.out.trans (hb.mono B.out.size))
  have z8 := hb.size
  have LX := Lib.hid hlie
  clear hlie hb
  rw [HK2.out]
  have hqv := pktOk_iff.1 (Po.make_valid HK2.out).1
  have hpk := (makeOk_iff.1 HK2.out).1
  generalize makeF x bs ns r ls = q at *
  have HR0 := Lib.hid (way_new LX.out (by rw [hqv.2.2.1]; decide) (by rw [hqv.2.2.2.2.2]; decide))
  have HPK := Lib.hid hpk
  clear hqv hpk
  go_wp2
  go_loopw [19] (fun i wr => ∃ k : Nat, k ≤ ns.length ∧ i = .int .i64 k ∧ Hid (∃ A5 c5 B5 d5 g1 g2, WayR w8 wr (wayQ ss q k) A5 c5 B5 d5 g1 g2)) (fun i _ => ns.length - (intOf i).toNat)
  case atStart => exact ⟨0, Nat.zero_le _, rfl, _, _, _, _, _, _, HR0.out⟩
  case round =>
    obtain ⟨k, hk, rfl, hR⟩ := hrel
    clear HR0
    obtain ⟨A5, c5, B5, d5, t1, t2, hW⟩ := hR.out
    have HW := Lib.hid hW
    clear hW hR
    have hbw := HW.out.2.2.1
    by_cases hlt : k < ns.length
    · have HST := Lib.hid (HWAY.out.1 k hlt)
      have hnx : wayQ ss q (k + 1) = (peelF (ss.getD k 0) (wayQ ss q k)).pk := rfl
      obtain ⟨ba, oa, rfl, _, _, cA0⟩ := IA.out.at_ hlt
      have hba : ba < w8.heap.size := World.block_lt_of_cell? w8 _ cA0
      have cA := (hbw.cell (p := ⟨ba, oa + k, none⟩) hba).trans cA0
      have HPL := Lib.hid HST.out.1
      have HS2 := Lib.hid HST.out.2
      clear cA0 HST
      generalize ss.getD k 0 = a0 at *
      generalize wayQ ss q k = qk at *
      generalize hy : peelF a0 qk = y at *
      have HY := Lib.hid hy
      have HNX := Lib.hid hnx
      clear hy hnx
      obtain ⟨m0, m1, m2, m3, mf⟩ := four_cells HW.out.1
      have P1 := Lib.hid (show Ints _ _ wr.drew A5 qk.hd.length c5 qk.hd from HW.out.2.1.hdr.ints)
      have P2 := Lib.hid (show Ints _ _ wr.drew B5 qk.bd.length d5 qk.bd from HW.out.2.1.bdy.ints)
      have hvz : Below wr.heap.size wr (wr.alloc (.cells #[.int .i64 0, .int .i64 0, .int .i64 0, .slice none 0 0, .int .i64 0, .slice none 0 0] 37)) := (Below.refl _ _).alloc (Nat.le_refl _) _
      obtain ⟨n0, n1', n2, n3, nf⟩ := four_cells (HW.out.1.below hvz (Nat.le_refl _))
      have cB := (hvz.cell (p := ⟨ba, oa + k, none⟩) (Nat.lt_of_lt_of_le hba hbw.size)).trans cA
      have hP3 := HW.out.2.1.hdr.ints.below hvz (Nat.le_refl _)
      have hP4 := HW.out.2.1.bdy.ints.below hvz (Nat.le_refl _)
      have P3 := Lib.hid (show Ints _ _ (wr.alloc (.cells #[.int .i64 0, .int .i64 0, .int .i64 0, .slice none 0 0, .int .i64 0, .slice none 0 0] 37)).drew A5 qk.hd.length c5 qk.hd from hP3)
      have P4 := Lib.hid (show Ints _ _ (wr.alloc (.cells #[.int .i64 0, .int .i64 0, .int .i64 0, .slice none 0 0, .int .i64 0, .slice none 0 0] 37)).drew B5 qk.bd.length d5 qk.bd from hP4)
      have hZ6 : Blk (wr.alloc (.cells #[.int .i64 0, .int .i64 0, .int .i64 0, .slice none 0 0, .int .i64 0, .slice none 0 0] 37)) wr.heap.size #[.int .i64 0, .int .i64 0, .int .i64 0, .slice none 0 0, .int .i64 0, .slice none 0 0] 37 := heap_alloc_new _ _
      have hsV : (wr.alloc (.cells #[.int .i64 0, .int .i64 0, .int .i64 0, .slice none 0 0, .int .i64 0, .slice none 0 0] 37)).heap.size = wr.heap.size + 1 := by simp
      have HVZ := Lib.hid hvz
      have HZ6 := Lib.hid hZ6
      have HSV := Lib.hid hsV
      clear hZ6 hsV hvz hP3 hP4
      go_wp2
      go_region_law (first
        | (go_simp; go_at_call 18; with_reducible refine (peelY _ _ _ _ _ _ _ _ a0 qk y _ P1.out P2.out HPL.out HY.out).mono ?_; intro e w50 hpp; refine pld_out hpp ?_; intro A6 c6 B6 d6 g7 g8 he; subst he; intro hlie7 hg7 hg8 hb7; clear hpp
           have HG : Hid (MidL wr (w50.alloc (.cells #[.int .i64 y.kind, .int .i64 y.next, .int .i64 y.pk.el, .slice A6 y.pk.hd.length c6, .int .i64 y.pk.tag, .slice B6 y.pk.bd.length d6] 37)) w50.heap.size y A6 c6 B6 d6 g7 g8) := midl_new hlie7 hb7
           have HGE : Hid (wr.heap.size ≤ g7 ∧ wr.heap.size ≤ g8) := ⟨hg7, hg8⟩)
        | (go_simp; go_at_call 18; with_reducible refine (peelY _ _ _ _ _ _ _ _ a0 qk y _ P3.out P4.out HPL.out HY.out).mono ?_; intro e w50 hpp; refine pld_out hpp ?_; intro A6 c6 B6 d6 g7 g8 he; subst he; intro hlie7 hg7 hg8 hb7; clear hpp
           have hzz7 := mid_blk HZ6.out hb7
           refine six_out hzz7 ?_; intro z0 z1 z2 z3 z4 z5 zf
           have HG : Hid (MidL wr ((((((w50.setCell ⟨wr.heap.size, 0, none⟩ (.int .i64 y.kind)).setCell ⟨wr.heap.size, 1, none⟩ (.int .i64 y.next)).setCell ⟨wr.heap.size, 2, none⟩ (.int .i64 y.pk.el)).setCell ⟨wr.heap.size, 3, none⟩ (.slice A6 y.pk.hd.length c6)).setCell ⟨wr.heap.size, 4, none⟩ (.int .i64 y.pk.tag)).setCell ⟨wr.heap.size, 5, none⟩ (.slice B6 y.pk.bd.length d6)) wr.heap.size y A6 c6 B6 d6 g7 g8) := midl_set HVZ.out hlie7 hb7 hzz7 (Nat.le_refl _) (by have := HSV.out; omega) hg7 hg8
           have HGE : Hid (wr.heap.size ≤ g7 ∧ wr.heap.size ≤ g8) := ⟨Nat.le_trans HVZ.out.size hg7, Nat.le_trans HVZ.out.size hg8⟩)
        | (trace_state; fail))
      all_goals
        first
          | (have hmk : Hid (MidL wr (w50.alloc (.cells #[.int .i64 y.kind, .int .i64 y.next, .int .i64 y.pk.el, .slice A6 y.pk.hd.length c6, .int .i64 y.pk.tag, .slice B6 y.pk.bd.length d6] 37)) (w50.heap.size) y A6 c6 B6 d6 g7 g8) := by with_reducible exact HG
             clear hmk; generalize (w50.alloc (.cells #[.int .i64 y.kind, .int .i64 y.next, .int .i64 y.pk.el, .slice A6 y.pk.hd.length c6, .int .i64 y.pk.tag, .slice B6 y.pk.bd.length d6] 37)) = w51 at HG ⊢; generalize hgh : w50.heap.size = gg at HG ⊢)
          | (have hmk : Hid (MidL wr ((((((w50.setCell ⟨wr.heap.size, 0, none⟩ (.int .i64 y.kind)).setCell ⟨wr.heap.size, 1, none⟩ (.int .i64 y.next)).setCell ⟨wr.heap.size, 2, none⟩ (.int .i64 y.pk.el)).setCell ⟨wr.heap.size, 3, none⟩ (.slice A6 y.pk.hd.length c6)).setCell ⟨wr.heap.size, 4, none⟩ (.int .i64 y.pk.tag)).setCell ⟨wr.heap.size, 5, none⟩ (.slice B6 y.pk.bd.length d6)) (wr.heap.size) y A6 c6 B6 d6 g7 g8) := by with_reducible exact HG
             clear hmk; generalize ((((((w50.setCell ⟨wr.heap.size, 0, none⟩ (.int .i64 y.kind)).setCell ⟨wr.heap.size, 1, none⟩ (.int .i64 y.next)).setCell ⟨wr.heap.size, 2, none⟩ (.int .i64 y.pk.el)).setCell ⟨wr.heap.size, 3, none⟩ (.slice A6 y.pk.hd.length c6)).setCell ⟨wr.heap.size, 4, none⟩ (.int .i64 y.pk.tag)).setCell ⟨wr.heap.size, 5, none⟩ (.slice B6 y.pk.bd.length d6)) = w51 at HG ⊢; generalize hgh : wr.heap.size = gg at HG ⊢)
        have hbx := HG.out.2.2
        have hbz := hbw.trans (hbx.mono hbw.size)
        obtain ⟨x0, x1, x2, x3, x4, x5, xf⟩ := six_cells HG.out.1
        have hZW : Blk w51 w8.heap.size #[.int .i64 qk.el, .slice A5 qk.hd.length c5, .int .i64 qk.tag, .slice B5 qk.bd.length d5] 27 := HW.out.1.below hbx (Nat.le_refl _)
        obtain ⟨o0, o1, o2, o3, of⟩ := four_cells hZW
        have hgs : w8.heap.size < wr.heap.size := (Array.getElem?_eq_some_iff.1 HW.out.1).1
        have HWS : Hid (∀ dd : Nat, WayR w8 (((((w51.drewN dd).setCell ⟨w8.heap.size, 0, none⟩ (.int .i64 y.pk.el)).setCell ⟨w8.heap.size, 1, none⟩ (.slice A6 y.pk.hd.length c6)).setCell ⟨w8.heap.size, 2, none⟩ (.int .i64 y.pk.tag)).setCell ⟨w8.heap.size, 3, none⟩ (.slice B6 y.pk.bd.length d6)) y.pk A6 c6 B6 d6 g7 g8) := fun dd => way_setd hZW HG.out.2.1 hbz (by have := HGE.out; omega) (by have := HGE.out; omega) dd
        by_cases hk1 : k + 1 < ns.length
        · obtain ⟨e1, e2⟩ := HS2.out.1 hk1
          rw [e1] at x0
          rw [e2] at x1
          obtain ⟨bn, on, rfl, _, _, cN0⟩ := IN.out.at_ hk1
          have hbn : bn < w8.heap.size := World.block_lt_of_cell? w8 _ cN0
          have cN := (hbz.cell (p := ⟨bn, on + (k + 1), none⟩) hbn).trans cN0
          have d1 : decide ((k : Int) + 1 < (ns.length : Int)) = true := by simp; omega
          have d2 : ((k : Int) + 1 == (ns.length : Int)) = false := by simp; omega
          have dx : (ns.getD (k + 1) 0 != ns.getD (k + 1) 0) = false := by simp
          have hq1 : (0 : Int) ≤ (k : Int) + 1 := by omega
          have hq2 : (k : Int) + 1 < (ns.length : Int) := by omega
          have hq3 : ((k : Int) + 1).toNat = k + 1 := by omega
          clear cN0 HG HZ6 HVZ HSV P1 P2 P3 P4 hZW m0 m1 m2 m3 mf n0 n1' n2 n3 nf cA cB
          generalize ns.getD (k + 1) 0 = nx at *
          go_wp2
          go_quiet (fail)
          go_wp2
          go_roundw
          case rel => exact ⟨k + 1, by omega, by go_num, A6, c6, B6, d6, g7, g8, by rw [HNX.out]; with_reducible exact HWS.out _⟩
          case measure => simp [intOf]; omega
        · obtain ⟨e1, e2⟩ := HS2.out.2 (by omega)
          rw [e1] at x0
          rw [e2] at x1
          have d1 : decide ((k : Int) + 1 < (ns.length : Int)) = false := by simp; omega
          have d2 : ((k : Int) + 1 == (ns.length : Int)) = true := by simp; omega
          have dx : (r != r) = false := by simp
          clear HG HZ6 HVZ HSV P1 P2 P3 P4 hZW m0 m1 m2 m3 mf n0 n1' n2 n3 nf cA cB
          go_wp2
          go_quiet (fail)
          go_wp2
          go_roundw
          case rel => exact ⟨k + 1, by omega, by go_num, A6, c6, B6, d6, g7, g8, by rw [HNX.out]; with_reducible exact HWS.out _⟩
          case measure => simp [intOf]; omega
    · obtain rfl : k = ns.length := by omega
      have hbd := HWAY.out.2
      have hI := HW.out.2.1.bdy.ints
      obtain ⟨m0, m1, m2, m3, mf⟩ := four_cells HW.out.1
      rw [hbd] at hI m3
      have HI := Lib.hid hI
      have HL := Lib.hid (IL.out.below hbw (Nat.le_refl _))
      have HBR := Lib.hid (B.out.trans (hbw.mono B.out.size))
      clear hbd hI
      go_wp2_with fail
      ((with_reducible refine (Im4.LetterOpen _ _ _ _ _ (packL ls) _ HI.out).mono ?_); rintro e w70 ⟨A7, c7, rfl, ho7, hb7⟩)
      rw [openF_pack HPK.out] at ho7 ⊢
      rw [openOk_pack HPK.out]
      have HO7 := Lib.hid ho7.ints
      have HL7 := Lib.hid (HL.out.below hb7 (Nat.le_refl _))
      have HB7 := Lib.hid (HBR.out.trans (hb7.mono HBR.out.size))
      clear ho7 hb7 HL HI HBR
      go_wp2_with fail
      ((with_reducible refine (Hlp.sameInts _ _ _ _ _ _ _ _ _ _ ls ls _ HO7.out HL7.out).mono ?_); rintro e w71 ⟨rfl, nn, rfl⟩)
      rw [decide_eq_true (rfl : ls = ls)]
      go_wp2
      go_ret
      exact ⟨rfl, HB7.out.os, HB7.out.tape, HB7.out.output, HB7.out.size, HB7.out.block⟩

end Law5v
end Go.Proofs.Ytdejnbbfdbafnaa
