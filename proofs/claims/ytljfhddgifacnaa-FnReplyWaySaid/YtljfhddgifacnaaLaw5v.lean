/-
  The law of chapter 5 on the way of packets, by the contracts of the functions that it calls: it returns true and writes nothing that was there.
-/
import Derived.Test.YtljfhddgifacnaaLaw5s
import Derived.Test.YtljfhddgifacnaaIm4
namespace Go.Proofs.Ytljfhddgifacnaa
open Go.RowKit
namespace Law5v
open Gm Mm Tm Lm Pm Po Pq Il Rd Hlp5 LawB Sec Law5s

/-- The packet on its way. -/
def wayQ (ss : List Int) (q : Pkt) : Nat → Pkt
  | 0 => q
  | i + 1 => (peelF (ss.getD i 0) (wayQ ss q i)).pk
def StepOk (a : Int) (q : Pkt) (ns : List Int) (r : Int) (i : Nat) : Prop :=
  peelOk a q = true ∧ (i + 1 < ns.length → (peelF a q).kind = 0 ∧ (peelF a q).next = ns.getD (i + 1) 0) ∧ (i + 1 = ns.length → (peelF a q).kind = 1 ∧ (peelF a q).next = r)
theorem way_all {x r : Int} {ns ls : List Int} (s : Int) (h : makeOk x (pubL s ns.length) ns r ls = true) (h1 : 1 ≤ ns.length) (h3 : ns.length ≤ 3) :
    (∀ i, i < ns.length → StepOk ((secL s ns.length).getD i 0) (wayQ (secL s ns.length) (makeF x (pubL s ns.length) ns r ls) i) ns r i) ∧
    (wayQ (secL s ns.length) (makeF x (pubL s ns.length) ns r ls) ns.length).bd = packL ls := by
  obtain ⟨q1, q2, q3, q4, q5, q6⟩ := makeOk_iff.1 h
  rw [makeF_yes h]
  have hb := packL_ok q1
  have hb6 := packL_len (packOk_iff.1 q1).2
  have he : ∀ i : Int, inG (1 + (s * 29 + i * 101 + 3) % 996) = true := fun i => inG_iff.2 (by omega)
  have g0 := he ((0 : Nat) : Int)
  have g1 := he ((1 : Nat) : Int)
  have g2 := he ((2 : Nat) : Int)
  match ns, h1, h3 with
  | [a], _, _ =>
    have hs : secL s [a].length = [1 + (s * 29 + ((0 : Nat) : Int) * 101 + 3) % 996] := rfl
    have hp : pubL s [a].length = [mulG (1 + (s * 29 + ((0 : Nat) : Int) * 101 + 3) % 996) 5] := rfl
    rw [hs, hp]
    clear hs hp
    generalize 1 + (s * 29 + ((0 : Nat) : Int) * 101 + 3) % 996 = e0 at *
    obtain ⟨t1, t2, t3, t4⟩ := step_last (x := x) (a := e0) (r := r) (names := [a]) (f := fillF (keysF x [mulG e0 5])) (b := packL ls) (pre := []) q2 g0 (by simp) rfl q6 hb hb6
    have t5 := peelF_yes t1
    refine ⟨fun i hi => ?_, ?_⟩
    · obtain rfl : i = 0 := by simp at hi; omega
      refine ⟨t1, fun hh => by simp at hh, fun _ => ?_⟩
      show (peelF e0 _).kind = 1 ∧ (peelF e0 _).next = r
      rw [show wayQ [e0] (pkt x [mulG e0 5] [a] r (fillF (keysF x [mulG e0 5])) (packL ls)) 0 = pkt x [mulG e0 5] [a] r (fillF (keysF x [mulG e0 5])) (packL ls) from rfl, t5]
      exact ⟨t2, t3⟩
    · show (peelF e0 (pkt x [mulG e0 5] [a] r (fillF (keysF x [mulG e0 5])) (packL ls))).pk.bd = packL ls
      rw [t5]; exact t4
  | [a, a2], _, _ =>
    have hn2 : inName a2 = true := q5 a2 (by simp)
    have hs : secL s [a, a2].length = [1 + (s * 29 + ((0 : Nat) : Int) * 101 + 3) % 996, 1 + (s * 29 + ((1 : Nat) : Int) * 101 + 3) % 996] := rfl
    have hp : pubL s [a, a2].length = [mulG (1 + (s * 29 + ((0 : Nat) : Int) * 101 + 3) % 996) 5, mulG (1 + (s * 29 + ((1 : Nat) : Int) * 101 + 3) % 996) 5] := rfl
    rw [hs, hp]
    clear hs hp
    generalize 1 + (s * 29 + ((0 : Nat) : Int) * 101 + 3) % 996 = e0 at *
    generalize 1 + (s * 29 + ((1 : Nat) : Int) * 101 + 3) % 996 = e1 at *
    have hx2 : inG (mulG x (facG (mulG x (mulG e0 5)))) = true := mulG_pos q2 (facG_pos (mulG_pos q2 (mulG_pos g0 (by decide))))
    generalize hf : fillF (keysF x [mulG e0 5, mulG e1 5]) = f
    obtain ⟨t1, t2⟩ := step_next (x := x) (a := e0) (a2 := e1) (r := r) («as» := []) (names := [a, a2]) (f := f) (b := packL ls) (pre := []) q2 g0 (by simp) hf.symm hn2 hb hb6
    have t5 := (peelF_yes t1).trans t2
    obtain ⟨u1, u2, u3, u4⟩ := step_last (x := mulG x (facG (mulG x (mulG e0 5)))) (a := e1) (r := r) (names := [a2]) (f := f) (b := packL ls) (pre := [mulG x (mulG e0 5)]) hx2 g1 (by simp) hf.symm q6 hb hb6
    have u5 := peelF_yes u1
    have w0 : wayQ [e0, e1] (pkt x [mulG e0 5, mulG e1 5] [a, a2] r f (packL ls)) 1 = pkt (mulG x (facG (mulG x (mulG e0 5)))) [mulG e1 5] [a2] r f (packL ls) := by
      show (peelF e0 (pkt x [mulG e0 5, mulG e1 5] [a, a2] r f (packL ls))).pk = _
      exact congrArg Pld.pk t5
    refine ⟨fun i hi => ?_, ?_⟩
    · obtain rfl | rfl : i = 0 ∨ i = 1 := by simp at hi; omega
      · refine ⟨t1, fun _ => ?_, fun hh => by simp at hh⟩
        exact ⟨congrArg Pld.kind t5, congrArg Pld.next t5⟩
      · rw [w0]
        refine ⟨u1, fun hh => by simp at hh, fun _ => ?_⟩
        show (peelF e1 _).kind = 1 ∧ (peelF e1 _).next = r
        rw [u5]
        exact ⟨u2, u3⟩
    · show (peelF e1 (wayQ [e0, e1] (pkt x [mulG e0 5, mulG e1 5] [a, a2] r f (packL ls)) 1)).pk.bd = packL ls
      rw [w0, u5]; exact u4
  | [a, a2, a3], _, _ =>
    have hn2 : inName a2 = true := q5 a2 (by simp)
    have hn3 : inName a3 = true := q5 a3 (by simp)
    have hs : secL s [a, a2, a3].length = [1 + (s * 29 + ((0 : Nat) : Int) * 101 + 3) % 996, 1 + (s * 29 + ((1 : Nat) : Int) * 101 + 3) % 996, 1 + (s * 29 + ((2 : Nat) : Int) * 101 + 3) % 996] := rfl
    have hp : pubL s [a, a2, a3].length = [mulG (1 + (s * 29 + ((0 : Nat) : Int) * 101 + 3) % 996) 5, mulG (1 + (s * 29 + ((1 : Nat) : Int) * 101 + 3) % 996) 5, mulG (1 + (s * 29 + ((2 : Nat) : Int) * 101 + 3) % 996) 5] := rfl
    rw [hs, hp]
    clear hs hp
    generalize 1 + (s * 29 + ((0 : Nat) : Int) * 101 + 3) % 996 = e0 at *
    generalize 1 + (s * 29 + ((1 : Nat) : Int) * 101 + 3) % 996 = e1 at *
    generalize 1 + (s * 29 + ((2 : Nat) : Int) * 101 + 3) % 996 = e2 at *
    have hx2 : inG (mulG x (facG (mulG x (mulG e0 5)))) = true := mulG_pos q2 (facG_pos (mulG_pos q2 (mulG_pos g0 (by decide))))
    generalize hf : fillF (keysF x [mulG e0 5, mulG e1 5, mulG e2 5]) = f
    obtain ⟨t1, t2⟩ := step_next (x := x) (a := e0) (a2 := e1) (r := r) («as» := [e2]) (names := [a, a2, a3]) (f := f) (b := packL ls) (pre := []) q2 g0 (by simp) hf.symm hn2 hb hb6
    have t5 := (peelF_yes t1).trans t2
    have hf2 : f = (([mulG x (mulG e0 5)] ++ keysF (mulG x (facG (mulG x (mulG e0 5)))) [mulG e1 5, mulG e2 5]).dropLast).foldl fillStep [] := hf.symm
    generalize mulG x (facG (mulG x (mulG e0 5))) = x2 at *
    have hx3 : inG (mulG x2 (facG (mulG x2 (mulG e1 5)))) = true := mulG_pos hx2 (facG_pos (mulG_pos hx2 (mulG_pos g1 (by decide))))
    obtain ⟨v1, v2⟩ := step_next (x := x2) (a := e1) (a2 := e2) (r := r) («as» := []) (names := [a2, a3]) (f := f) (b := packL ls) (pre := [mulG x (mulG e0 5)]) hx2 g1 (by simp) hf2 hn3 hb hb6
    have v5 := (peelF_yes v1).trans v2
    obtain ⟨u1, u2, u3, u4⟩ := step_last (x := mulG x2 (facG (mulG x2 (mulG e1 5)))) (a := e2) (r := r) (names := [a3]) (f := f) (b := packL ls) (pre := [mulG x (mulG e0 5), mulG x2 (mulG e1 5)]) hx3 g2 (by simp) hf2 q6 hb hb6
    have u5 := peelF_yes u1
    have w0 : wayQ [e0, e1, e2] (pkt x [mulG e0 5, mulG e1 5, mulG e2 5] [a, a2, a3] r f (packL ls)) 1 = pkt x2 [mulG e1 5, mulG e2 5] [a2, a3] r f (packL ls) := by
      show (peelF e0 (pkt x [mulG e0 5, mulG e1 5, mulG e2 5] [a, a2, a3] r f (packL ls))).pk = _
      exact congrArg Pld.pk t5
    have w1 : wayQ [e0, e1, e2] (pkt x [mulG e0 5, mulG e1 5, mulG e2 5] [a, a2, a3] r f (packL ls)) 2 = pkt (mulG x2 (facG (mulG x2 (mulG e1 5)))) [mulG e2 5] [a3] r f (packL ls) := by
      show (peelF e1 (wayQ [e0, e1, e2] (pkt x [mulG e0 5, mulG e1 5, mulG e2 5] [a, a2, a3] r f (packL ls)) 1)).pk = _
      rw [w0]
      exact congrArg Pld.pk v5
    refine ⟨fun i hi => ?_, ?_⟩
    · obtain rfl | rfl | rfl : i = 0 ∨ i = 1 ∨ i = 2 := by simp at hi; omega
      · refine ⟨t1, fun _ => ?_, fun hh => by simp at hh⟩
        exact ⟨congrArg Pld.kind t5, congrArg Pld.next t5⟩
      · rw [w0]
        refine ⟨v1, fun _ => ?_, fun hh => by simp at hh⟩
        exact ⟨congrArg Pld.kind v5, congrArg Pld.next v5⟩
      · rw [w1]
        refine ⟨u1, fun hh => by simp at hh, fun _ => ?_⟩
        show (peelF e2 _).kind = 1 ∧ (peelF e2 _).next = r
        rw [u5]
        exact ⟨u2, u3⟩
    · show (peelF e2 (wayQ [e0, e1, e2] (pkt x [mulG e0 5, mulG e1 5, mulG e2 5] [a, a2, a3] r f (packL ls)) 2)).pk.bd = packL ls
      rw [w1, u5]; exact u4
/-- The packet on its way lies in the block that was laid first. -/
def WayR (w0 wr : World) (q : Pkt) (A : Option Addr) (c : Nat) (B : Option Addr) (d b1 b2 : Nat) : Prop :=
  Blk wr w0.heap.size #[.int .i64 q.el, .slice A q.hd.length c, .int .i64 q.tag, .slice B q.bd.length d] 39 ∧ Lies wr b1 b2 A c B d q ∧ Below w0.heap.size w0 wr ∧ w0.heap.size ≠ b1 ∧ w0.heap.size ≠ b2
theorem way_new {w0 : World} {q : Pkt} {A B : Option Addr} {c d b1 b2 : Nat} (hl : Lies w0 b1 b2 A c B d q) (h9 : 0 < q.hd.length) (h6 : 0 < q.bd.length) :
    WayR w0 (w0.alloc (.cells #[.int .i64 q.el, .slice A q.hd.length c, .int .i64 q.tag, .slice B q.bd.length d] 39)) q A c B d b1 b2 := by
  have hal : Below w0.heap.size w0 (w0.alloc (.cells #[.int .i64 q.el, .slice A q.hd.length c, .int .i64 q.tag, .slice B q.bd.length d] 39)) := (Below.refl _ _).alloc (Nat.le_refl _) _
  obtain ⟨z1, _, _, h1, h2, h3, _⟩ := hl.1.1.2.2.2 h9
  obtain ⟨z2, _, _, h4, h5, h7, _⟩ := hl.2.1.1.2.2.2 h6
  exact ⟨heap_alloc_new _ _, hl.below hal (Nat.le_refl _), hal, by omega, by omega⟩
theorem way_set {w0 w' : World} {q : Pkt} {A B : Option Addr} {c d b1 b2 : Nat} {u0 u1 u2 u3 : Value} (hz : Blk w' w0.heap.size #[u0, u1, u2, u3] 39) (hl : Lies w' b1 b2 A c B d q) (hb : Below w0.heap.size w0 w') (n1 : w0.heap.size ≠ b1) (n2 : w0.heap.size ≠ b2) :
    WayR w0 ((((w'.setCell ⟨w0.heap.size, 0, none⟩ (.int .i64 q.el)).setCell ⟨w0.heap.size, 1, none⟩ (.slice A q.hd.length c)).setCell ⟨w0.heap.size, 2, none⟩ (.int .i64 q.tag)).setCell ⟨w0.heap.size, 3, none⟩ (.slice B q.bd.length d)) q A c B d b1 b2 := by
  obtain ⟨s1, s2, s3⟩ := set4 (v0 := .int .i64 q.el) (v1 := .slice A q.hd.length c) (v2 := .int .i64 q.tag) (v3 := .slice B q.bd.length d) hz
  have hfar : ∀ i, i ≠ w0.heap.size → ((((w'.setCell ⟨w0.heap.size, 0, none⟩ (.int .i64 q.el)).setCell ⟨w0.heap.size, 1, none⟩ (.slice A q.hd.length c)).setCell ⟨w0.heap.size, 2, none⟩ (.int .i64 q.tag)).setCell ⟨w0.heap.size, 3, none⟩ (.slice B q.bd.length d)).heap[i]? = w'.heap[i]? := fun i hi => (Below.heap_setCell _ _ _ _ hi).trans ((Below.heap_setCell _ _ _ _ hi).trans ((Below.heap_setCell _ _ _ _ hi).trans (Below.heap_setCell _ _ _ _ hi)))
  clear hz
  generalize ((((w'.setCell ⟨w0.heap.size, 0, none⟩ (.int .i64 q.el)).setCell ⟨w0.heap.size, 1, none⟩ (.slice A q.hd.length c)).setCell ⟨w0.heap.size, 2, none⟩ (.int .i64 q.tag)).setCell ⟨w0.heap.size, 3, none⟩ (.slice B q.bd.length d)) = W at s1 s2 s3 hfar ⊢
  exact ⟨s1, lies_ne hl n1 n2 W (Nat.le_of_eq s2.symm) hfar, hb.trans (s3 _ (Nat.le_refl _)), n1, n2⟩
theorem WayR.dn {w0 wr : World} {q : Pkt} {A B : Option Addr} {c d b1 b2 : Nat} (h : WayR w0 wr q A c B d b1 b2) (n : Nat) : WayR w0 (wr.drewN n) q A c B d b1 b2 :=
  ⟨h.1, h.2.1, h.2.2.1.trans ⟨rfl, rfl, rfl, Nat.le_refl _, fun _ _ => rfl⟩, h.2.2.2⟩
theorem way_setd {w0 w' : World} {q : Pkt} {A B : Option Addr} {c d b1 b2 : Nat} {u0 u1 u2 u3 : Value} (hz : Blk w' w0.heap.size #[u0, u1, u2, u3] 39) (hl : Lies w' b1 b2 A c B d q) (hb : Below w0.heap.size w0 w') (n1 : w0.heap.size ≠ b1) (n2 : w0.heap.size ≠ b2) (n : Nat) :
    WayR w0 (((((w'.drewN n).setCell ⟨w0.heap.size, 0, none⟩ (.int .i64 q.el)).setCell ⟨w0.heap.size, 1, none⟩ (.slice A q.hd.length c)).setCell ⟨w0.heap.size, 2, none⟩ (.int .i64 q.tag)).setCell ⟨w0.heap.size, 3, none⟩ (.slice B q.bd.length d)) q A c B d b1 b2 :=
  way_set (w' := w'.drewN n) hz hl (hb.trans ⟨rfl, rfl, rfl, Nat.le_refl _, fun _ _ => rfl⟩) n1 n2

end Law5v
end Go.Proofs.Ytljfhddgifacnaa
