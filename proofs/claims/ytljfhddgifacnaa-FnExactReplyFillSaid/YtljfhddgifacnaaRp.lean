/-
  Blocks for replies in memory: what a call returns that makes one.
-/
import Derived.Test.YtljfhddgifacnaaRm
import Derived.Test.YtljfhddgifacnaaCl
namespace Go.Proofs.Ytljfhddgifacnaa
open Go.RowKit
namespace Rp
open Il Lm Pm Pq Rm Hlp5 Cl

/-- What is returned with a block: the head of its packet in one slice of its own, the keys in another. -/
def RepPost (f : Int) (p : Pkt) (ok : Bool) (w : World) (e : Ending) (w' : World) : Prop :=
  ∃ A c B d b1 b2, e = .returned (.tuple #[.agg #[.int .i64 f, .int .i64 p.el, .slice A p.hd.length c, .int .i64 p.tag], .slice B p.bd.length d, .bool ok]) ∧ Lies w' b1 b2 A c B d p ∧ w.heap.size ≤ b1 ∧ w.heap.size ≤ b2 ∧ Below w.heap.size w w'
theorem rep_zero {w w' : World} {A : Option Addr} (hb : Below w.heap.size w w') : RepPost 0 Pkt.zero false w (.returned (.tuple #[.agg #[.int .i64 0, .int .i64 0, .slice none 0 0, .int .i64 0], .slice A 0 0, .bool false])) w' :=
  ⟨none, 0, A, 0, w.heap.size, w.heap.size + 1, rfl, ⟨Own.nil_ (Nat.zero_le _), Own.nil_ (Nat.zero_le _), by omega⟩, Nat.le_refl _, by omega, hb⟩
theorem rep_no {x : Int} {ps ns : List Int} {r : Int} {w w' : World} {A : Option Addr} (h : makeOk x ps ns r [] = false) (hb : Below w.heap.size w w') :
    RepPost (fstF x ps ns r) (repF x ps ns r) (makeOk x ps ns r []) w (.returned (.tuple #[.agg #[.int .i64 0, .int .i64 0, .slice none 0 0, .int .i64 0], .slice A 0 0, .bool false])) w' := by
  rw [fstF_no h, repF_no h, h]
  exact rep_zero hb
/-- A block that was made, its value in block g, which is written last. -/
theorem rep_yes {x : Int} {ps ns : List Int} {r : Int} {w wF : World} {A K B0 : Option Addr} {c k d0 b1 b2 lo hi g : Nat} {p : Pkt} {f : Int} {v0 v1 v2 v3 : Value} (h : makeOk x ps ns r [] = true) (hp : makeF x ps ns r [] = p) (hf : ns.getD 0 0 = f)
    (hl : Lies wF b1 b2 A c B0 d0 p) (hk : Il.Own lo hi wF K (keysF x ps).length k (keysF x ps)) (hn : 0 < (keysF x ps).length) (hlo : b1 < lo) (hg : g < b1) (hw : w.heap.size ≤ g) (hb : Below w.heap.size w wF) :
    RepPost (fstF x ps ns r) (repF x ps ns r) (makeOk x ps ns r []) w (.returned (.tuple #[.agg #[.int .i64 f, .int .i64 p.el, .slice A p.hd.length c, .int .i64 p.tag], .slice K (keysF x ps).length k, .bool true]))
      ((((wF.setCell ⟨g, 0, none⟩ v0).setCell ⟨g, 1, none⟩ v1).setCell ⟨g, 2, none⟩ v2).setCell ⟨g, 3, none⟩ v3) := by
  subst hp
  subst hf
  rw [fstF_yes h, repF_yes h, h]
  obtain ⟨b3, q1, q2, ok3⟩ := own_one hk hn
  have hfar : ∀ b, b ≠ g → ((((wF.setCell ⟨g, 0, none⟩ v0).setCell ⟨g, 1, none⟩ v1).setCell ⟨g, 2, none⟩ v2).setCell ⟨g, 3, none⟩ v3).heap[b]? = wF.heap[b]? := fun b hb => far03b hb _ _ _ _
  have hsz := size03 wF g v0 v1 v2 v3
  refine ⟨A, c, K, k, b1, b3, rfl, ⟨?_, ?_, by omega⟩, by omega, by omega, below03 hb hw _ _ _ _⟩
  · exact Il.Own.keep hl.hdr (Nat.le_of_eq hsz.symm) fun b r1 r2 _ => hfar b (by omega)
  · exact Il.Own.keep ok3 (Nat.le_of_eq hsz.symm) fun b r1 r2 _ => hfar b (by omega)

/-- A packet of a reply: the header is a copy. -/
theorem fill_no {f el tag : Int} {hd ls : List Int} {w w' : World} (h : fillOk f el hd tag ls = false) (hb : Below w.heap.size w w') :
    PktPost (fillR f el hd tag ls) (fillOk f el hd tag ls) w (.returned (.tuple #[.agg #[.int .i64 0, .slice none 0 0, .int .i64 0, .slice none 0 0], .bool false])) w' := by
  rw [fillR_no h, h]
  exact pkt_zero hb
theorem fill_yes {f el tag : Int} {hd ls : List Int} {w wF : World} {A B : Option Addr} {c d n m b1 lo hi g : Nat} {v0 v1 v2 v3 : Value} (h : fillOk f el hd tag ls = true)
    (oh : Il.Own b1 (b1 + 1) wF A n c hd) (ob : Il.Own lo hi wF B m d (packF ls)) (hhi : hi ≤ b1) (hlo : g < lo) (hw : w.heap.size ≤ g) (hb : Below w.heap.size w wF) :
    PktPost (fillR f el hd tag ls) (fillOk f el hd tag ls) w (.returned (.tuple #[.agg #[.int .i64 el, .slice A n c, .int .i64 tag, .slice B m d], .bool true]))
      ((((wF.setCell ⟨g, 0, none⟩ v0).setCell ⟨g, 1, none⟩ v1).setCell ⟨g, 2, none⟩ v2).setCell ⟨g, 3, none⟩ v3) := by
  obtain ⟨q1, q2, q3⟩ := fillOk_iff.1 h
  obtain ⟨u1, u2, u3, u4, u5, u6⟩ := pktOk_iff.1 q3
  rw [fillR_yes h, h]
  rw [Lm.packF_yes q1] at ob
  have e1 := oh.1.1
  have e2 := ob.1.1
  subst e1
  subst e2
  have u6' : (Lm.packL ls).length = 6 := u6
  obtain ⟨b2, r1, r2, ok2⟩ := own_one ob (by omega)
  have hfar : ∀ b, b ≠ g → ((((wF.setCell ⟨g, 0, none⟩ v0).setCell ⟨g, 1, none⟩ v1).setCell ⟨g, 2, none⟩ v2).setCell ⟨g, 3, none⟩ v3).heap[b]? = wF.heap[b]? := fun b hb => far03b hb _ _ _ _
  have hsz := size03 wF g v0 v1 v2 v3
  refine ⟨A, c, B, d, b1, b2, rfl, ⟨?_, ?_, by omega⟩, by omega, by omega, below03 hb hw _ _ _ _⟩
  · exact Il.Own.keep oh (Nat.le_of_eq hsz.symm) fun b r1 r2 _ => hfar b (by omega)
  · exact Il.Own.keep ok2 (Nat.le_of_eq hsz.symm) fun b r1 r2 _ => hfar b (by omega)

end Rp
end Go.Proofs.Ytljfhddgifacnaa
