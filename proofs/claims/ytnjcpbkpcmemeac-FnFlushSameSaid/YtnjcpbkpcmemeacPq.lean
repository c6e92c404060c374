/-
  Packets in memory: what a call returns that makes a packet or peels one; slices that lie in one block.
-/
import Derived.Test.YtnjcpbkpcmemeacIla
import Derived.Test.YtnjcpbkpcmemeacPm
import Derived.ArgAppend
namespace Go.Proofs.Ytnjcpbkpcmemeac
open Go.RowKit
namespace Pq
open Il Pm

theorem ints_one {lo hi : Nat} {w : World} {A : Option Addr} {n c : Nat} {xs : List Int} (h : Ints lo hi w A n c xs) (hn : 0 < n) : ∃ b, lo ≤ b ∧ b < hi ∧ Ints b (b + 1) w A n c xs := by
  obtain ⟨b, off, e, h1, h2, hz, hc⟩ := h.2.2.2 hn
  exact ⟨b, h1, h2, h.1, h.2.1, h.2.2.1, fun _ => ⟨b, off, e, Nat.le_refl _, by omega, hz, hc⟩⟩
theorem own_one {lo hi : Nat} {w : World} {A : Option Addr} {n c : Nat} {xs : List Int} (h : Il.Own lo hi w A n c xs) (hn : 0 < n) : ∃ b, lo ≤ b ∧ b < hi ∧ Il.Own b (b + 1) w A n c xs := by
  obtain ⟨b, h1, h2, hi⟩ := ints_one h.1 hn
  exact ⟨b, h1, h2, hi, h.2⟩
/-- The block of an owned slice lies below the world's end. -/
theorem own_hi {lo hi : Nat} {w : World} {A : Option Addr} {n c : Nat} {xs : List Int} (h : Il.Own lo hi w A n c xs) : Il.Own lo w.heap.size w A n c xs :=
  ⟨⟨h.1.1, h.1.2.1, h.1.2.2.1, fun hn => by
    obtain ⟨b, off, e, h1, _, hz, hc⟩ := h.1.2.2.2 hn
    exact ⟨b, off, e, h1, hz, hz, hc⟩⟩, h.2⟩
theorem own_sub {lo hi : Nat} {w : World} {b off n c k m : Nat} {xs : List Int} (h : Il.Own lo hi w (some ⟨b, off, none⟩) n c xs) (hk : k + m ≤ n) : Il.Own lo hi w (some ⟨b, off + k, none⟩) m (c - k) ((xs.drop k).take m) := by
  refine ⟨h.1.sub_ hk, fun b2 off2 hm e j hj => ?_⟩
  simp only [Option.some.injEq, Addr.mk.injEq, and_true] at e
  obtain ⟨rfl, rfl⟩ := e
  rw [Nat.add_assoc]
  exact h.2 b off (by omega) rfl (k + j) (by omega)

/-- A packet lies in memory: its header in block b1, its body in block b2. -/
def Lies (w : World) (b1 b2 : Nat) (A : Option Addr) (c : Nat) (B : Option Addr) (d : Nat) (p : Pkt) : Prop :=
  Il.Own b1 (b1 + 1) w A p.hd.length c p.hd ∧ Il.Own b2 (b2 + 1) w B p.bd.length d p.bd ∧ b1 ≠ b2
def PktPost (p : Pkt) (ok : Bool) (w : World) (e : Ending) (w' : World) : Prop :=
  ∃ A c B d b1 b2, e = .returned (.tuple #[.agg #[.int .i64 p.el, .slice A p.hd.length c, .int .i64 p.tag, .slice B p.bd.length d], .bool ok]) ∧ Lies w' b1 b2 A c B d p ∧ w.heap.size ≤ b1 ∧ w.heap.size ≤ b2 ∧ Below w.heap.size w w'
def PldPost (p : Pld) (ok : Bool) (w : World) (e : Ending) (w' : World) : Prop :=
  ∃ A c B d b1 b2, e = .returned (.tuple #[.agg #[.int .i64 p.kind, .int .i64 p.next, .int .i64 p.pk.el, .slice A p.pk.hd.length c, .int .i64 p.pk.tag, .slice B p.pk.bd.length d], .bool ok]) ∧ Lies w' b1 b2 A c B d p.pk ∧ w.heap.size ≤ b1 ∧ w.heap.size ≤ b2 ∧ Below w.heap.size w w'

theorem Lies.hdr {w : World} {b1 b2 : Nat} {A B : Option Addr} {c d : Nat} {p : Pkt} (h : Lies w b1 b2 A c B d p) : Il.Own b1 (b1 + 1) w A p.hd.length c p.hd := h.1
theorem Lies.bdy {w : World} {b1 b2 : Nat} {A B : Option Addr} {c d : Nat} {p : Pkt} (h : Lies w b1 b2 A c B d p) : Il.Own b2 (b2 + 1) w B p.bd.length d p.bd := h.2.1
theorem lies_zero (w : World) (b : Nat) : Lies w b (b + 1) none 0 none 0 Pkt.zero := ⟨Own.nil_ (Nat.zero_le _), Own.nil_ (Nat.zero_le _), by omega⟩
theorem pkt_zero {w w' : World} (hb : Below w.heap.size w w') : PktPost Pkt.zero false w (.returned (.tuple #[.agg #[.int .i64 0, .slice none 0 0, .int .i64 0, .slice none 0 0], .bool false])) w' :=
  ⟨none, 0, none, 0, w.heap.size, w.heap.size + 1, rfl, lies_zero _ _, Nat.le_refl _, by omega, hb⟩
theorem pld_zero {w w' : World} (hb : Below w.heap.size w w') : PldPost Pld.zero false w (.returned (.tuple #[.agg #[.int .i64 0, .int .i64 0, .int .i64 0, .slice none 0 0, .int .i64 0, .slice none 0 0], .bool false])) w' :=
  ⟨none, 0, none, 0, w.heap.size, w.heap.size + 1, rfl, lies_zero _ _, Nat.le_refl _, by omega, hb⟩
/-- Header and body in ranges of blocks that do not meet. -/
theorem lies_of {w : World} {l1 h1 l2 h2 n c m d : Nat} {A B : Option Addr} {el tag : Int} {hd bd : List Int} (oh : Il.Own l1 h1 w A n c hd) (ob : Il.Own l2 h2 w B m d bd) (hn : 0 < n) (hm : 0 < m) (hne : h1 ≤ l2 ∨ h2 ≤ l1) {lo : Nat} (e1 : lo ≤ l1) (e2 : lo ≤ l2) :
    ∃ b1 b2, Lies w b1 b2 A c B d ⟨el, hd, tag, bd⟩ ∧ lo ≤ b1 ∧ lo ≤ b2 := by
  obtain ⟨b1, q1, q2, k1⟩ := own_one oh hn
  obtain ⟨b2, q3, q4, k2⟩ := own_one ob hm
  have f1 := oh.1.1
  have f2 := ob.1.1
  subst f1
  subst f2
  exact ⟨b1, b2, ⟨k1, k2, by omega⟩, by omega, by omega⟩
theorem Lies.below {w w' : World} {b1 b2 B0 : Nat} {A B : Option Addr} {c d : Nat} {p : Pkt} (h : Lies w b1 b2 A c B d p) (hb : Below B0 w w') (hB : w.heap.size ≤ B0) : Lies w' b1 b2 A c B d p :=
  ⟨h.1.below hb hB, h.2.1.below hb hB, h.2.2⟩

theorem Lies.keep {w w' : World} {b1 b2 : Nat} {A B : Option Addr} {c d : Nat} {p : Pkt} (h : Lies w b1 b2 A c B d p) (hs : w.heap.size ≤ w'.heap.size) (hk : ∀ b, b = b1 ∨ b = b2 → b < w.heap.size → w'.heap[b]? = w.heap[b]?) : Lies w' b1 b2 A c B d p :=
  ⟨h.1.keep hs fun b h1 h2 h3 => hk b (by omega) h3, h.2.1.keep hs fun b h1 h2 h3 => hk b (by omega) h3, h.2.2⟩
theorem Lies.set {w : World} {b1 b2 : Nat} {A B : Option Addr} {c d : Nat} {p : Pkt} (h : Lies w b1 b2 A c B d p) {q : Addr} (h1 : q.block ≠ b1) (h2 : q.block ≠ b2) (v : Value) : Lies (w.setCell q v) b1 b2 A c B d p :=
  h.keep (by simp [World.setCell]) fun b hb _ => Below.heap_setCell w q v b (by rintro rfl; rcases hb with h | h; exact h1 h; exact h2 h)
theorem Lies.drewN {w : World} {b1 b2 : Nat} {A B : Option Addr} {c d : Nat} {p : Pkt} (h : Lies w b1 b2 A c B d p) (n : Nat) : Lies (w.drewN n) b1 b2 A c B d p := h

/-- append(list, more...) where the list has no room. -/
theorem wpList_appFull {o : Oper} {a : Act} {Q : Exit → Act → World → Prop} {ops : Array Oper} {rest : List Oper} (w : World) (lo hi b off n : Nat) (xs : List Int) (hx : Il.Own lo hi w (some ⟨b, off, none⟩) n n xs) (hn : 0 < n) (hlo : lo ≤ w.heap.size)
    (l2 h2 : Nat) (F : Option Addr) (m c : Nat) (ys : List Int) (hy : Ints l2 h2 w F m c ys) (hl : n + m ≤ 10000000) (s y : Operand)
    (hgd : o.guard = none) (ho : o.op = .call { callee := .builtin .append, args := #[s, y], argTypes := #[23, 23] })
    (hs : a.eval s = .slice (some ⟨b, off, none⟩) n n) (hy2 : a.eval y = .slice F m c)
    (h : ∀ A' c' w', Il.Own lo w'.heap.size w' A' (n + m) c' (xs ++ ys) → Below w.heap.size w w' → wpList Try.prog ops Q rest (a.put o.dst (.slice A' (n + m) c')) w') : wpList Try.prog ops Q (o :: rest) a w := by
  obtain ⟨i0, hi0, hz0, hz1, hz2⟩ := info_parts infoInt
  rcases Nat.eq_zero_or_pos m with rfl | hm
  · have hye : ys = [] := List.eq_nil_of_length_eq_zero hy.1
    subst hye
    rw [List.append_nil, Nat.add_zero] at h
    refine wpList_plain hgd fun _ hK => ?_
    unfold Oper.wp execOp
    have hr : (Builtin.append_ #[23, 23] o.type #[.slice (some ⟨b, off, none⟩) n n, .slice F 0 c]).run Try.prog w = .ok (.slice (some ⟨b, off, none⟩) n n) w := by
      cases F with
      | none => simp [Builtin.append_, run_underlying Try.underlying23, sizeOf, typeInfo, hi0, Builtin.lenOf, Builtin.firstCells, storeCells]
      | some ad =>
        have hq := run_append_room_cells (P := Try.prog) w 23 o.type 3 i0 Try.underlying23 hi0 b off n n ad 0 c [] (by simp) (fun j u hj => by simp at hj) (fun u hu => by simp at hu) (by omega) (fun j hj => by simp at hj) (fun j hj => by simp at hj)
        simpa [World.setCells] using hq
    simp only [ho, resolve, invoke, builtin, Sem.run_bind, Sem.run_pure, Result.andThen_ok, List.map_toArray, List.map_cons, List.map_nil, hs, hy2, hr]
    exact hK _ _ (h _ _ w (own_hi hx) (Below.refl _ _))
  · obtain ⟨b2, off2, rfl, _, _, hz, hc2⟩ := hy.2.2.2 hm
    obtain ⟨b1, off1, e1, _, _, _, hc1⟩ := hx.1.2.2.2 hn
    simp only [Option.some.injEq, Addr.mk.injEq, and_true] at e1
    obtain ⟨rfl, rfl⟩ := e1
    have hxl := hx.1.1
    have hyl := hy.1
    refine wpList_append_arg w hgd s y 23 ho 3 i0 (.int .i64 0) 1 8 Try.underlying23 hi0 hz0 hz1 hz2 rfl (by decide) b off n n (xs.map (Value.int .i64)) hs (by simp [hxl]) ?_ ⟨b2, off2, none⟩ m c (ys.map (Value.int .i64)) hy2 (by simp [hyl]) ?_ ?_ (fun h => absurd h (by omega)) (by unfold maxLen; omega) (by omega) (fun h => absurd h (by omega)) ?_
    · intro j u hj
      have hjl : j < n := by
        rcases Nat.lt_or_ge j n with h | h
        · exact h
        · rw [List.getElem?_eq_none (by simpa [hxl] using h)] at hj; cases hj
      rw [hc1 j hjl, ← hj, List.getElem?_map, List.getD_eq_getElem?_getD, List.getElem?_eq_getElem (by omega)]
      rfl
    · intro j u hj
      have hjl : j < m := by
        rcases Nat.lt_or_ge j m with h | h
        · exact h
        · rw [List.getElem?_eq_none (by simpa [hyl] using h)] at hj; cases hj
      have e2 : (Addr.add ⟨b2, off2, none⟩ j) = ⟨b2, off2 + j, none⟩ := by
        unfold Addr.add; split <;> simp_all
      rw [e2, hc2 j hjl, ← hj, List.getElem?_map, List.getD_eq_getElem?_getD, List.getElem?_eq_getElem (by omega)]
      rfl
    · intro u hu
      obtain ⟨z, _, rfl⟩ := List.mem_map.1 hu
      rfl
    · intro _ v' w' h3 h4
      rw [← List.map_append] at h3
      obtain ⟨A', c', rfl, ho'⟩ := own_of h3
      exact h A' c' w' (ho'.mono hlo (Nat.le_refl _)) (below_of_grown h4)

theorem six_cells {w : World} {b : Nat} {v0 v1 v2 v3 v4 v5 : Value} {t : TypeId} (h : w.heap[b]? = some (.cells #[v0, v1, v2, v3, v4, v5] t (0, 0))) :
    w.cell? ⟨b, 0, none⟩ = some v0 ∧ w.cell? ⟨b, 1, none⟩ = some v1 ∧ w.cell? ⟨b, 2, none⟩ = some v2 ∧ w.cell? ⟨b, 3, none⟩ = some v3 ∧ w.cell? ⟨b, 4, none⟩ = some v4 ∧ w.cell? ⟨b, 5, none⟩ = some v5 ∧ ∀ j, w.frozen? ⟨b, j, none⟩ = false := by
  refine ⟨?_, ?_, ?_, ?_, ?_, ?_, fun j => by simp [World.frozen?, h]⟩
  all_goals rw [cell_of_row _ _ _ _ _ _ h]; rfl
theorem four_cells {w : World} {b : Nat} {v0 v1 v2 v3 : Value} {t : TypeId} (h : w.heap[b]? = some (.cells #[v0, v1, v2, v3] t (0, 0))) :
    w.cell? ⟨b, 0, none⟩ = some v0 ∧ w.cell? ⟨b, 1, none⟩ = some v1 ∧ w.cell? ⟨b, 2, none⟩ = some v2 ∧ w.cell? ⟨b, 3, none⟩ = some v3 ∧ ∀ j, w.frozen? ⟨b, j, none⟩ = false := by
  refine ⟨?_, ?_, ?_, ?_, fun j => by simp [World.frozen?, h]⟩
  all_goals rw [cell_of_row _ _ _ _ _ _ h]; rfl

theorem below_dr {B : Nat} {w w' : World} (h : Below B w w') (n : Nat) : Below B w (w'.drewN n) := ⟨h.os, h.tape, h.output, h.size, h.block⟩
/-- The two blocks that a peeling holds: the packet, and what it will return. -/
def TwoB (w : World) (b : Nat) (v0 v1 v2 v3 : Value) : Prop :=
  w.heap[b]? = some (.cells #[v0, v1, v2, v3] 37 (0, 0)) ∧ w.heap[b + 1]? = some (.cells #[.int .i64 0, .int .i64 0, .int .i64 0, .slice none 0 0, .int .i64 0, .slice none 0 0] 39 (0, 0))
theorem TwoB.below {w w' : World} {b B : Nat} {v0 v1 v2 v3 : Value} (h : TwoB w b v0 v1 v2 v3) (hb : Below B w w') (hB : b + 1 < B) : TwoB w' b v0 v1 v2 v3 :=
  ⟨(hb.block b (by omega)).trans h.1, (hb.block (b + 1) hB).trans h.2⟩

theorem al_below {w w' : World} {k : Nat} {o : Obj} (h : Below ((w.drewN k).alloc o).heap.size ((w.drewN k).alloc o) w') : Below w.heap.size w w' := by
  have h1 : Below w.heap.size w ((w.drewN k).alloc o) := (below_dr (Below.refl _ w) k).alloc (Nat.le_refl _) o
  exact h1.trans (h.mono h1.size)
theorem set4 {w : World} {g : Nat} {u0 u1 u2 u3 v0 v1 v2 v3 : Value} {t : TypeId} (h : w.heap[g]? = some (.cells #[u0, u1, u2, u3] t (0, 0))) :
    ((((w.setCell ⟨g, 0, none⟩ v0).setCell ⟨g, 1, none⟩ v1).setCell ⟨g, 2, none⟩ v2).setCell ⟨g, 3, none⟩ v3).heap[g]? = some (.cells #[v0, v1, v2, v3] t (0, 0)) ∧
    ((((w.setCell ⟨g, 0, none⟩ v0).setCell ⟨g, 1, none⟩ v1).setCell ⟨g, 2, none⟩ v2).setCell ⟨g, 3, none⟩ v3).heap.size = w.heap.size ∧
    ∀ B, B ≤ g → Below B w ((((w.setCell ⟨g, 0, none⟩ v0).setCell ⟨g, 1, none⟩ v1).setCell ⟨g, 2, none⟩ v2).setCell ⟨g, 3, none⟩ v3) := by
  refine ⟨?_, by simp [World.setCell], fun B hB => ((((Below.refl B w).setCell hB _).setCell hB _).setCell hB _).setCell hB _⟩
  simp [World.setCell, Array.getElem?_modify, h]

theorem far4 {w : World} {g b o : Nat} (h : b ≠ g) (v2 v3 v4 v5 : Value) :
    ((((w.setCell ⟨g, 2, none⟩ v2).setCell ⟨g, 3, none⟩ v3).setCell ⟨g, 4, none⟩ v4).setCell ⟨g, 5, none⟩ v5).cell? ⟨b, o, none⟩ = w.cell? ⟨b, o, none⟩ :=
  World.cell?_of_block ((Below.heap_setCell _ _ _ _ h).trans ((Below.heap_setCell _ _ _ _ h).trans ((Below.heap_setCell _ _ _ _ h).trans (Below.heap_setCell _ _ _ _ h))))

theorem set4b {w : World} {g : Nat} {u0 u1 u2 u3 u4 u5 v2 v3 v4 v5 : Value} {t : TypeId} (h : w.heap[g]? = some (.cells #[u0, u1, u2, u3, u4, u5] t (0, 0))) :
    ((((w.setCell ⟨g, 2, none⟩ v2).setCell ⟨g, 3, none⟩ v3).setCell ⟨g, 4, none⟩ v4).setCell ⟨g, 5, none⟩ v5).heap[g]? = some (.cells #[u0, u1, v2, v3, v4, v5] t (0, 0)) ∧
    ((((w.setCell ⟨g, 2, none⟩ v2).setCell ⟨g, 3, none⟩ v3).setCell ⟨g, 4, none⟩ v4).setCell ⟨g, 5, none⟩ v5).heap.size = w.heap.size ∧
    ∀ B, B ≤ g → Below B w ((((w.setCell ⟨g, 2, none⟩ v2).setCell ⟨g, 3, none⟩ v3).setCell ⟨g, 4, none⟩ v4).setCell ⟨g, 5, none⟩ v5) := by
  refine ⟨?_, by simp [World.setCell], fun B hB => ((((Below.refl B w).setCell hB _).setCell hB _).setCell hB _).setCell hB _⟩
  simp [World.setCell, Array.getElem?_modify, h]

end Pq
end Go.Proofs.Ytnjcpbkpcmemeac
