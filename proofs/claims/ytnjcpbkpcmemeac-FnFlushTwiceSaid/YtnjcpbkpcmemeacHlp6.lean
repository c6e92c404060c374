/-
  Contracts of the exact laws' helpers on packets that came in: their size, their copies; helpers on peeled packets.
-/
import Derived.Test.YtnjcpbkpcmemeacHlp5
import Derived.Deep.Cut
namespace Go.Proofs.Ytnjcpbkpcmemeac
open Go.RowKit
namespace Hlp6
open Il Pm Pq LawB Hlp5

/-- Header and body in ranges of blocks that follow each other, each perhaps empty. -/
theorem lies_new {w : World} {l1 h1 l2 h2 n c m d : Nat} {A B : Option Addr} {el tag : Int} {hd bd : List Int} (oh : Il.Own l1 h1 w A n c hd) (ob : Il.Own l2 h2 w B m d bd) (hne : h1 ≤ l2) {lo : Nat} (e1 : lo ≤ l1) (e2 : lo ≤ l2) :
    ∃ b1 b2, Lies w b1 b2 A c B d ⟨el, hd, tag, bd⟩ ∧ lo ≤ b1 ∧ lo ≤ b2 ∧ (0 < n → l1 ≤ b1 ∧ b1 < h1) ∧ (0 < m → l2 ≤ b2 ∧ b2 < h2) := by
  have f1 := oh.1.1
  have f2 := ob.1.1
  subst f1
  subst f2
  have nil : ∀ (k c : Nat) (A : Option Addr) (xs : List Int) (l h : Nat), Il.Own l h w A xs.length c xs → xs.length = 0 → Il.Own k (k + 1) w A xs.length c xs := fun k c A xs l h o e =>
    ⟨⟨rfl, o.1.2.1, o.1.2.2.1, fun q => absurd q (by omega)⟩, fun _ _ q => absurd q (by omega)⟩
  rcases Nat.eq_zero_or_pos hd.length with z1 | z1
  · rcases Nat.eq_zero_or_pos bd.length with z2 | z2
    · exact ⟨lo, lo + 1, ⟨nil _ _ _ _ _ _ oh z1, nil _ _ _ _ _ _ ob z2, by omega⟩, by omega, by omega, fun q => absurd q (by omega), fun q => absurd q (by omega)⟩
    · obtain ⟨b2, q3, q4, k2⟩ := own_one ob z2
      exact ⟨h2, b2, ⟨nil _ _ _ _ _ _ oh z1, k2, by omega⟩, by omega, by omega, fun q => absurd q (by omega), fun _ => ⟨q3, q4⟩⟩
  · obtain ⟨b1, q1, q2, k1⟩ := own_one oh z1
    rcases Nat.eq_zero_or_pos bd.length with z2 | z2
    · exact ⟨b1, h1, ⟨k1, nil _ _ _ _ _ _ ob z2, by omega⟩, by omega, by omega, fun _ => ⟨q1, q2⟩, fun q => absurd q (by omega)⟩
    · obtain ⟨b2, q3, q4, k2⟩ := own_one ob z2
      exact ⟨b1, b2, ⟨k1, k2, by omega⟩, by omega, by omega, fun _ => ⟨q1, q2⟩, fun _ => ⟨q3, q4⟩⟩

theorem three_blocks (w : World) (a b c : Array Value) (t1 t2 t3 : TypeId) :
    Blk (((w.alloc (.cells a t1)).alloc (.cells b t2)).alloc (.cells c t3)) w.heap.size a t1 ∧ Blk (((w.alloc (.cells a t1)).alloc (.cells b t2)).alloc (.cells c t3)) (w.heap.size + 1) b t2 ∧ Blk (((w.alloc (.cells a t1)).alloc (.cells b t2)).alloc (.cells c t3)) (w.heap.size + 1 + 1) c t3 ∧
    (((w.alloc (.cells a t1)).alloc (.cells b t2)).alloc (.cells c t3)).heap.size = w.heap.size + 1 + 1 + 1 ∧ Below w.heap.size w (((w.alloc (.cells a t1)).alloc (.cells b t2)).alloc (.cells c t3)) := by
  have h1 := (Below.refl w.heap.size w).alloc (Nat.le_refl _) (.cells a t1)
  have h2 := h1.alloc h1.size (.cells b t2)
  have h3 := h2.alloc h2.size (.cells c t3)
  have e1 : (w.alloc (.cells a t1)).heap.size = w.heap.size + 1 := by simp
  have e2 : ((w.alloc (.cells a t1)).alloc (.cells b t2)).heap.size = w.heap.size + 1 + 1 := by simp
  refine ⟨?_, ?_, ?_, by simp, h3⟩
  · exact (Below.heap_alloc _ _ _ (by omega)).trans ((Below.heap_alloc _ _ _ (by omega)).trans (heap_alloc_new _ _))
  · have := heap_alloc_new (w.alloc (.cells a t1)) (.cells b t2)
    rw [e1] at this
    exact (Below.heap_alloc _ _ _ (by omega)).trans this
  · have := heap_alloc_new ((w.alloc (.cells a t1)).alloc (.cells b t2)) (.cells c t3)
    rw [e2] at this
    exact this
theorem lies_set4 {w : World} {b b1 b2 : Nat} {A B : Option Addr} {c d : Nat} {p : Pkt} (h : Lies w b1 b2 A c B d p) (h1 : b ≠ b1) (h2 : b ≠ b2) (u0 u1 u2 u3 : Value) :
    Lies ((((w.setCell ⟨b, 0, none⟩ u0).setCell ⟨b, 1, none⟩ u1).setCell ⟨b, 2, none⟩ u2).setCell ⟨b, 3, none⟩ u3) b1 b2 A c B d p :=
  (((h.set (q := ⟨b, 0, none⟩) h1 h2 u0).set (q := ⟨b, 1, none⟩) h1 h2 u1).set (q := ⟨b, 2, none⟩) h1 h2 u2).set (q := ⟨b, 3, none⟩) h1 h2 u3
theorem below_set4 {B b : Nat} {w0 w : World} (h : Below B w0 w) (hb : B ≤ b) (u0 u1 u2 u3 : Value) :
    Below B w0 ((((w.setCell ⟨b, 0, none⟩ u0).setCell ⟨b, 1, none⟩ u1).setCell ⟨b, 2, none⟩ u2).setCell ⟨b, 3, none⟩ u3) :=
  (((h.setCell hb _).setCell hb _).setCell hb _).setCell hb _
theorem ints_top {lo hi : Nat} {w : World} {A : Option Addr} {n c : Nat} {xs : List Int} (h : Ints lo hi w A n c xs) : Ints 0 w.heap.size w A n c xs :=
  ⟨h.1, h.2.1, h.2.2.1, fun hn => by
    obtain ⟨b, off, e, h1, _, hz, hc⟩ := h.2.2.2 hn
    exact ⟨b, off, e, Nat.zero_le _, hz, hz, hc⟩⟩
theorem results_cell1 {fn : Func} {p : Tmp} {ty : TypeId} (h : fn.results = #[.cell p ty]) (tmps : Array Value) (P : Program) (w : World) :
    (results fn tmps).run P w = ((asAddr (tmps.getD p undef)).run P w).andThen fun a w₁ => (loadVar ty a).run P w₁ := by
  simp only [results, h]
  simp [Sem.run_bind, Result.andThen]

set_option maxRecDepth 20000 in
theorem szIntS (A : Option Addr) (n c : Nat) (left : Int) (w : World) (hn : n ≤ maxLen) (h0 : 0 ≤ left) (h1 : left ≤ 10000000) :
    Calls Try.prog 47 #[.slice A n c, .int .i64 left] w fun e w' => e = .returned (.int .i64 (if (n : Int) ≤ left then left - n else -1)) ∧ w = w' := by
  unfold maxLen at hn
  by_cases h : (n : Int) ≤ left
  · rw [if_pos h]
    go_enter Try.func47, Try.ntmps47
    go_wp2
    go_ret
    exact ⟨rfl, rfl⟩
  · rw [if_neg h]
    go_enter Try.func47, Try.ntmps47
    go_wp2
    go_ret
    exact ⟨rfl, rfl⟩

set_option maxRecDepth 20000 in
theorem szPacket (el tag : Int) (n m : Nat) (A B : Option Addr) (c d : Nat) (w : World) (hn : n ≤ maxLen) (hm : m ≤ maxLen) :
    Calls Try.prog 20 #[.agg #[.int .i64 el, .slice A n c, .int .i64 tag, .slice B m d], .int .i64 1048576] w (IntB (if n + m ≤ 1048576 then 1048576 - n - m else -1) w) := by
  have B0 := Lib.hid ((Below.refl _ w).alloc (Nat.le_refl _) (.cells #[.int .i64 el, .slice A n c, .int .i64 tag, .slice B m d] 46))
  by_cases h1 : n ≤ 1048576
  · by_cases h2 : n + m ≤ 1048576
    · rw [if_pos h2]
      go_enter Try.func20, Try.ntmps20
      go_wp2_with fail
      ((with_reducible refine (szIntS _ _ _ 1048576 _ hn (by omega) (by omega)).mono ?_); rintro e w1 ⟨rfl, rfl⟩)
      rw [if_pos (by omega)]
      go_wp2_with fail
      ((with_reducible refine (szIntS _ _ _ (1048576 - (n : Int)) _ hm (by omega) (by omega)).mono ?_); rintro e w1 ⟨rfl, rfl⟩)
      rw [if_pos (by omega)]
      go_wp2
      go_ret
      exact ⟨rfl, B0.out⟩
    · rw [if_neg h2]
      go_enter Try.func20, Try.ntmps20
      go_wp2_with fail
      ((with_reducible refine (szIntS _ _ _ 1048576 _ hn (by omega) (by omega)).mono ?_); rintro e w1 ⟨rfl, rfl⟩)
      rw [if_pos (by omega)]
      go_wp2_with fail
      ((with_reducible refine (szIntS _ _ _ (1048576 - (n : Int)) _ hm (by omega) (by omega)).mono ?_); rintro e w1 ⟨rfl, rfl⟩)
      rw [if_neg (by omega)]
      go_wp2
      go_ret
      exact ⟨rfl, B0.out⟩
  · rw [if_neg (by omega)]
    go_enter Try.func20, Try.ntmps20
    go_wp2_with fail
    ((with_reducible refine (szIntS _ _ _ 1048576 _ hn (by omega) (by omega)).mono ?_); rintro e w1 ⟨rfl, rfl⟩)
    rw [if_neg (by omega)]
    go_wp2
    go_ret
    exact ⟨rfl, B0.out⟩

/-- A copy of a packet that came in. -/
def CopyP (p : Pkt) (w : World) (e : Ending) (w' : World) : Prop :=
  ∃ A c B d b1 b2, e = .returned (.agg #[.int .i64 p.el, .slice A p.hd.length c, .int .i64 p.tag, .slice B p.bd.length d]) ∧ Lies w' b1 b2 A c B d p ∧ w.heap.size ≤ b1 ∧ w.heap.size ≤ b2 ∧ Below w.heap.size w w'
set_option maxRecDepth 20000 in
theorem toPacket (p : Pkt) (A B : Option Addr) (c d l1 h1 l2 h2 : Nat) (w : World) (i1 : Ints l1 h1 w A p.hd.length c p.hd) (i2 : Ints l2 h2 w B p.bd.length d p.bd) (hn : p.hd.length ≤ 1048576) (hm : p.bd.length ≤ 1048576) :
    Calls Try.prog 22 #[.agg #[.int .i64 p.el, .slice A p.hd.length c, .int .i64 p.tag, .slice B p.bd.length d]] w (CopyP p w) := by
  obtain ⟨el, hd, tag, bd⟩ := p
  dsimp only at *
  obtain ⟨z0, z1, z2, zs, zb⟩ := three_blocks w #[.int .i64 el, .slice A hd.length c, .int .i64 tag, .slice B bd.length d] #[.int .i64 0, .slice none 0 0, .int .i64 0, .slice none 0 0] #[.int .i64 el, .slice none 0 0, .int .i64 0, .slice none 0 0] 46 37 37
  have I1 := Lib.hid ((ints_top i1).below zb (Nat.le_refl _))
  have I2 := Lib.hid ((ints_top i2).below zb (Nat.le_refl _))
  have Z0 := Lib.hid z0
  have Z1 := Lib.hid z1
  have Z2 := Lib.hid z2
  have ZS := Lib.hid zs
  have BB := Lib.hid zb
  clear i1 i2 z0 z1 z2 zs zb
  go_enter Try.func22, Try.ntmps22
  go_wp2_with fail
  have hs3 : w.heap.size + 1 + 1 < (((w.alloc (.cells #[.int .i64 el, .slice A hd.length c, .int .i64 tag, .slice B bd.length d] 46)).alloc (.cells #[.int .i64 0, .slice none 0 0, .int .i64 0, .slice none 0 0] 37)).alloc (.cells #[.int .i64 el, .slice none 0 0, .int .i64 0, .slice none 0 0] 37)).heap.size := by rw [ZS.out]; omega
  clear ZS
  generalize (((w.alloc (.cells #[.int .i64 el, .slice A hd.length c, .int .i64 tag, .slice B bd.length d] 46)).alloc (.cells #[.int .i64 0, .slice none 0 0, .int .i64 0, .slice none 0 0] 37)).alloc (.cells #[.int .i64 el, .slice none 0 0, .int .i64 0, .slice none 0 0] 37)) = w3 at *
  ((with_reducible refine (Hlp.toIntS _ _ _ _ _ hd _ I1.out (by omega)).mono ?_); rintro e w4 ⟨A1, c1, rfl, ho, hb⟩)
  have hs4 := hb.size
  have O1 := Lib.hid (own_far (own_far ho (q := ⟨w.heap.size + 1 + 1, 1, none⟩) (.inl hs3) (Value.slice A1 hd.length c1)) (q := ⟨w.heap.size + 1 + 1, 2, none⟩) (.inl hs3) (.int .i64 tag))
  have J2 := Lib.hid (ints_far (ints_far (I2.out.below hb (Nat.le_refl _)) (q := ⟨w.heap.size + 1 + 1, 1, none⟩) (.inr (by show w.heap.size ≤ w.heap.size + 1 + 1; omega)) (Value.slice A1 hd.length c1)) (q := ⟨w.heap.size + 1 + 1, 2, none⟩) (.inr (by show w.heap.size ≤ w.heap.size + 1 + 1; omega)) (.int .i64 tag))
  have Y0 := Lib.hid (blk_far (blk_far (Z0.out.below hb (Nat.le_refl _)) (q := ⟨w.heap.size + 1 + 1, 1, none⟩) (by show w.heap.size ≠ w.heap.size + 1 + 1; omega) (Value.slice A1 hd.length c1)) (q := ⟨w.heap.size + 1 + 1, 2, none⟩) (by show w.heap.size ≠ w.heap.size + 1 + 1; omega) (.int .i64 tag))
  have Y1 := Lib.hid (blk_far (blk_far (Z1.out.below hb (Nat.le_refl _)) (q := ⟨w.heap.size + 1 + 1, 1, none⟩) (by show w.heap.size + 1 ≠ w.heap.size + 1 + 1; omega) (Value.slice A1 hd.length c1)) (q := ⟨w.heap.size + 1 + 1, 2, none⟩) (by show w.heap.size + 1 ≠ w.heap.size + 1 + 1; omega) (.int .i64 tag))
  have Y2 := Lib.hid (blk_set2 (v := .int .i64 tag) (blk_set1 (v := (Value.slice A1 hd.length c1)) (Z2.out.below hb (Nat.le_refl _))))
  have B4 := Lib.hid (((BB.out.trans (hb.mono BB.out.size)).setCell (p := ⟨w.heap.size + 1 + 1, 1, none⟩) (by show w.heap.size ≤ w.heap.size + 1 + 1; omega) (Value.slice A1 hd.length c1)).setCell (p := ⟨w.heap.size + 1 + 1, 2, none⟩) (by show w.heap.size ≤ w.heap.size + 1 + 1; omega) (.int .i64 tag))
  have hs5 : w4.heap.size = ((w4.setCell ⟨w.heap.size + 1 + 1, 1, none⟩ (Value.slice A1 hd.length c1)).setCell ⟨w.heap.size + 1 + 1, 2, none⟩ (Value.int .i64 tag)).heap.size := by simp [World.setCell]
  obtain ⟨k0, k1, k2, k3, kf⟩ := four_cells (Z0.out.below hb (Nat.le_refl _))
  obtain ⟨m0, m1, m2, m3, mf⟩ := four_cells (Z2.out.below hb (Nat.le_refl _))
  clear ho hb I1 I2 Z0 Z1 Z2 BB
  go_wp2_with fail
  clear k0 k1 k2 k3 kf m0 m1 m2 m3 mf
  generalize ((w4.setCell ⟨w.heap.size + 1 + 1, 1, none⟩ (Value.slice A1 hd.length c1)).setCell ⟨w.heap.size + 1 + 1, 2, none⟩ (Value.int .i64 tag)) = w5 at *
  ((with_reducible refine (Hlp.toIntS _ _ _ _ _ bd _ J2.out (by omega)).mono ?_); rintro e w6 ⟨A2, c2, rfl, ho, hb⟩)
  have hs6 := hb.size
  have O2 := Lib.hid (own_far ho (q := ⟨w.heap.size + 1 + 1, 3, none⟩) (.inl (by show w.heap.size + 1 + 1 < w5.heap.size; omega)) (Value.slice A2 bd.length c2))
  have O1' := Lib.hid (own_far (O1.out.below hb (Nat.le_refl _)) (q := ⟨w.heap.size + 1 + 1, 3, none⟩) (.inl (by show w.heap.size + 1 + 1 < w3.heap.size; omega)) (Value.slice A2 bd.length c2))
  have X1 := Lib.hid (blk_far (Y1.out.below hb (Nat.le_refl _)) (q := ⟨w.heap.size + 1 + 1, 3, none⟩) (by show w.heap.size + 1 ≠ w.heap.size + 1 + 1; omega) (Value.slice A2 bd.length c2))
  have X2 := Lib.hid (blk_set3 (v := (Value.slice A2 bd.length c2)) (Y2.out.below hb (Nat.le_refl _)))
  have B6 := Lib.hid ((B4.out.trans (hb.mono B4.out.size)).setCell (p := ⟨w.heap.size + 1 + 1, 3, none⟩) (by show w.heap.size ≤ w.heap.size + 1 + 1; omega) (Value.slice A2 bd.length c2))
  obtain ⟨m0, m1, m2, m3, mf⟩ := four_cells (Y2.out.below hb (Nat.le_refl _))
  clear ho hb O1 J2 Y0 Y1 Y2 B4
  go_upto_region 6 with (fail)
  clear m0 m1 m2 m3 mf
  generalize (w6.setCell ⟨w.heap.size + 1 + 1, 3, none⟩ (Value.slice A2 bd.length c2)) = w7 at *
  obtain ⟨k0, k1, k2, k3, kf⟩ := four_cells X1.out
  obtain ⟨m0, m1, m2, m3, mf⟩ := four_cells X2.out
  go_wp2
  obtain ⟨b1, b2, hl, q1, q2, _, _⟩ := lies_new (el := el) (tag := tag) O1'.out O2.out (by omega) (lo := w.heap.size + 1 + 1 + 1) (by omega) (by omega)
  refine bodyPost_ret (v := .agg #[.int .i64 el, (Value.slice A1 hd.length c1), .int .i64 tag, (Value.slice A2 bd.length c2)]) ?_ rfl ?_
  · rw [results_cell1 rfl]
    go_simp
  · exact ⟨A1, c1, A2, c2, b1, b2, rfl, lies_set4 hl (by omega) (by omega) _ _ _ _, by omega, by omega, below_set4 B6.out (by omega) _ _ _ _⟩

set_option maxRecDepth 20000 in
theorem eqPeeled (p : Pld) (A B A2 B2 : Option Addr) (c d c2 d2 l1 h1 l2 h2 l3 h3 l4 h4 : Nat) (w : World) (i1 : Ints l1 h1 w A p.pk.hd.length c p.pk.hd) (i2 : Ints l2 h2 w B p.pk.bd.length d p.pk.bd) (i3 : Ints l3 h3 w A2 p.pk.hd.length c2 p.pk.hd) (i4 : Ints l4 h4 w B2 p.pk.bd.length d2 p.pk.bd) :
    Calls Try.prog 63 #[.agg #[.int .i64 p.kind, .int .i64 p.next, .int .i64 p.pk.el, .slice A p.pk.hd.length c, .int .i64 p.pk.tag, .slice B p.pk.bd.length d], .agg #[.int .i64 p.kind, .int .i64 p.next, .int .i64 p.pk.el, .slice A2 p.pk.hd.length c2, .int .i64 p.pk.tag, .slice B2 p.pk.bd.length d2]] w (BoolB true w) := by
  have h0 : Below w.heap.size w (w.alloc (.cells #[.int .i64 p.kind, .int .i64 p.next, .int .i64 p.pk.el, .slice A p.pk.hd.length c, .int .i64 p.pk.tag, .slice B p.pk.bd.length d] 39)) := (Below.refl _ _).alloc (Nat.le_refl _) _
  have hb0 := h0.alloc h0.size (.cells #[.int .i64 p.kind, .int .i64 p.next, .int .i64 p.pk.el, .slice A2 p.pk.hd.length c2, .int .i64 p.pk.tag, .slice B2 p.pk.bd.length d2] 39)
  have I1 := Lib.hid (i1.below hb0 (Nat.le_refl _))
  have I2 := Lib.hid (i2.below hb0 (Nat.le_refl _))
  have I3 := Lib.hid (i3.below hb0 (Nat.le_refl _))
  have I4 := Lib.hid (i4.below hb0 (Nat.le_refl _))
  have B0 := Lib.hid hb0
  clear i1 i2 i3 i4 h0 hb0
  go_enter Try.func63, Try.ntmps63
  go_wp2_with fail
  ((with_reducible refine (eqPacket p.pk _ _ _ _ _ _ _ _ _ _ _ _ _ _ _ _ _ I1.out I2.out I3.out I4.out).mono ?_); rintro e w1 ⟨rfl, hb⟩)
  have B1 := Lib.hid (B0.out.trans (hb.mono B0.out.size))
  clear hb
  go_wp2
  go_ret
  exact ⟨rfl, B1.out⟩



end Hlp6
end Go.Proofs.Ytnjcpbkpcmemeac
