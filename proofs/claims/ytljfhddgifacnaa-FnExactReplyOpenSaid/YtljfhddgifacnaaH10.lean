/-
  Contracts of the laws' helpers on blocks: equal ones are found equal; copies; marking and looking for marks.
-/
import Derived.Test.YtljfhddgifacnaaHlp
import Derived.Test.YtljfhddgifacnaaHlp6
import Derived.Test.YtljfhddgifacnaaRp
namespace Go.Proofs.Ytljfhddgifacnaa
open Go.RowKit
namespace H10
open Il Pm Pq LawB Hlp5 Cl

def bv (f el tag : Int) (A : Option Addr) (n c : Nat) : Value := .agg #[.int .i64 f, .int .i64 el, .slice A n c, .int .i64 tag]
set_option maxRecDepth 20000 in
theorem sameBlock (f el tag : Int) (hd : List Int) (A A2 : Option Addr) (n n2 c c2 l1 h1 l2 h2 : Nat) (w : World) (i1 : Ints l1 h1 w A n c hd) (i2 : Ints l2 h2 w A2 n2 c2 hd) :
    Calls Try.prog 16 #[.agg #[.int .i64 f, .int .i64 el, .slice A n c, .int .i64 tag], .agg #[.int .i64 f, .int .i64 el, .slice A2 n2 c2, .int .i64 tag]] w (BoolB true w) := by
  obtain ⟨-, -, -, hb0⟩ := two_blk w #[.int .i64 f, .int .i64 el, .slice A n c, .int .i64 tag] #[.int .i64 f, .int .i64 el, .slice A2 n2 c2, .int .i64 tag] 27 27
  have I1 := Lib.hid (i1.below hb0 (Nat.le_refl _))
  have I2 := Lib.hid (i2.below hb0 (Nat.le_refl _))
  have B0 := Lib.hid hb0
  clear i1 i2 hb0
  go_enter Try.func16, Try.ntmps16
  go_wp2_with fail
  ((with_reducible refine (Hlp.sameInts _ _ _ _ _ _ _ _ _ _ _ _ _ I1.out I2.out).mono ?_); rintro e w1 ⟨rfl, nn, rfl⟩)
  rw [decide_eq_true rfl]
  go_wp2
  go_ret
  exact ⟨rfl, B0.out.os, B0.out.tape, B0.out.output, B0.out.size, B0.out.block⟩
set_option maxRecDepth 20000 in
theorem eqBlock (f el tag : Int) (hd : List Int) (A A2 : Option Addr) (n n2 c c2 l1 h1 l2 h2 : Nat) (w : World) (i1 : Ints l1 h1 w A n c hd) (i2 : Ints l2 h2 w A2 n2 c2 hd) :
    Calls Try.prog 38 #[.agg #[.int .i64 f, .int .i64 el, .slice A n c, .int .i64 tag], .agg #[.int .i64 f, .int .i64 el, .slice A2 n2 c2, .int .i64 tag]] w (BoolB true w) := by
  obtain ⟨-, -, -, hb0⟩ := two_blk w #[.int .i64 f, .int .i64 el, .slice A n c, .int .i64 tag] #[.int .i64 f, .int .i64 el, .slice A2 n2 c2, .int .i64 tag] 27 27
  have I1 := Lib.hid (i1.below hb0 (Nat.le_refl _))
  have I2 := Lib.hid (i2.below hb0 (Nat.le_refl _))
  have B0 := Lib.hid hb0
  clear i1 i2 hb0
  go_enter Try.func38, Try.ntmps38
  go_wp2_with fail
  ((with_reducible refine (Hlp.eqIntS _ _ _ _ _ _ _ _ _ _ _ _ _ I1.out I2.out).mono ?_); rintro e w1 ⟨rfl, nn, rfl⟩)
  rw [decide_eq_true rfl]
  go_wp2
  go_ret
  exact ⟨rfl, B0.out.os, B0.out.tape, B0.out.output, B0.out.size, B0.out.block⟩
/-- A copy of a block, its header in memory of its own. -/
def CopyB (f el tag : Int) (hd : List Int) (w : World) (e : Ending) (w' : World) : Prop :=
  ∃ A c, e = .returned (.agg #[.int .i64 f, .int .i64 el, .slice A hd.length c, .int .i64 tag]) ∧ Il.Own w.heap.size w'.heap.size w' A hd.length c hd ∧ Below w.heap.size w w'
set_option maxRecDepth 20000 in
theorem toBlock (f el tag : Int) (hd : List Int) (A : Option Addr) (c l1 h1 : Nat) (w : World) (i1 : Ints l1 h1 w A hd.length c hd) (hn : hd.length ≤ 1048576) :
    Calls Try.prog 45 #[.agg #[.int .i64 f, .int .i64 el, .slice A hd.length c, .int .i64 tag]] w (CopyB f el tag hd w) := by
  obtain ⟨z0, z1, z2, zs, zb⟩ := Hlp6.three_blocks w #[.int .i64 f, .int .i64 el, .slice A hd.length c, .int .i64 tag] #[.int .i64 0, .int .i64 0, .slice none 0 0, .int .i64 0] #[.int .i64 f, .int .i64 el, .slice none 0 0, .int .i64 0] 68 27 27
  have I1 := Lib.hid (i1.below zb (Nat.le_refl _))
  have Z0 := Lib.hid z0
  have Z1 := Lib.hid z1
  have Z2 := Lib.hid z2
  have BB := Lib.hid zb
  clear i1 z0 z1 z2 zb
  go_enter Try.func45, Try.ntmps45
  go_wp2_with fail
  generalize (((w.alloc (.cells #[.int .i64 f, .int .i64 el, .slice A hd.length c, .int .i64 tag] 68)).alloc (.cells #[.int .i64 0, .int .i64 0, .slice none 0 0, .int .i64 0] 27)).alloc (.cells #[.int .i64 f, .int .i64 el, .slice none 0 0, .int .i64 0] 27)) = w3 at *
  ((with_reducible refine (Hlp.toIntS _ _ _ _ _ hd _ I1.out (by omega)).mono ?_); rintro e w4 ⟨A1, c1, rfl, ho, hb⟩)
  have hs4 := hb.size
  obtain ⟨k0, k1, k2, k3, kf⟩ := four_cells (Z0.out.below hb (Nat.le_refl _))
  obtain ⟨r0, r1, r2, r3, rf⟩ := four_cells (Z1.out.below hb (Nat.le_refl _))
  obtain ⟨m0, m1, m2, m3, mf⟩ := four_cells (Z2.out.below hb (Nat.le_refl _))
  have B4 := Lib.hid (BB.out.trans (hb.mono BB.out.size))
  have O4 := Lib.hid ho
  clear ho hb I1 Z0 Z1 Z2 BB
  go_wp2
  refine bodyPost_ret (v := .agg #[.int .i64 f, .int .i64 el, .slice A1 hd.length c1, .int .i64 tag]) ?_ rfl ?_
  · rw [results_cell1 rfl]
    go_simp
  · have hf : ∀ (W : World) (g i : Nat) (v : Value) (b : Nat), b ≠ g → (W.setCell ⟨g, i, none⟩ v).heap[b]? = W.heap[b]? := fun W g i v b hb => Below.heap_setCell W ⟨g, i, none⟩ v b hb
    refine ⟨A1, c1, rfl, ?_, ?_⟩
    · refine (O4.out.keep (w' := _) ?_ fun b r1 r2 _ => ?_).mono ?_ ?_
      · simp [World.setCell]
      · rw [far03b (by omega), hf _ _ _ _ _ (by omega), hf _ _ _ _ _ (by omega)]
      · omega
      · simp [World.setCell]
    · exact below03 ((B4.out.setCell (show w.heap.size ≤ w.heap.size + 1 + 1 by omega) _).setCell (show w.heap.size ≤ w.heap.size + 1 + 1 by omega) _) (by omega) _ _ _ _
set_option maxRecDepth 20000 in
theorem szBlock (f el tag : Int) (A : Option Addr) (n c : Nat) (w : World) (hn : n ≤ maxLen) :
    Calls Try.prog 44 #[.agg #[.int .i64 f, .int .i64 el, .slice A n c, .int .i64 tag], .int .i64 1048576] w fun e w' => e = .returned (.int .i64 (if (n : Int) ≤ 1048576 then 1048576 - n else -1)) ∧ Below w.heap.size w w' := by
  obtain ⟨-, -, hb0⟩ := one_blk w #[.int .i64 f, .int .i64 el, .slice A n c, .int .i64 tag] 68
  have B0 := Lib.hid hb0
  clear hb0
  by_cases h : (n : Int) ≤ 1048576
  · rw [if_pos h]
    go_enter Try.func44, Try.ntmps44
    go_wp2_with fail
    ((with_reducible refine (Hlp6.szIntS A n c 1048576 _ hn (by omega) (by omega)).mono ?_); rintro e w1 ⟨rfl, rfl⟩)
    rw [if_pos h]
    have hd : decide ((1048576 : Int) - n < 0) = false := by simp; omega
    go_wp2
    go_ret
    exact ⟨rfl, B0.out⟩
  · have HE : Hid ((if (n : Int) ≤ 1048576 then (1048576 : Int) - n else -1) = -1) := if_neg h
    rw [HE.out]
    clear h
    go_enter Try.func44, Try.ntmps44
    go_wp2_with fail
    ((with_reducible refine (Hlp6.szIntS A n c 1048576 _ hn (by omega) (by omega)).mono ?_); rintro e w1 ⟨rfl, rfl⟩)
    rw [HE.out]
    go_wp2
    go_ret
    exact ⟨rfl, B0.out⟩
set_option maxRecDepth 20000 in
theorem markBlock (f el tag : Int) (A : Option Addr) (n c lo hi : Nat) (xs : List Int) (k0 : Int) (w : World) (ho : Il.Own lo hi w A n c xs) (hn : n ≤ 10000000) (h0 : 0 ≤ k0) (h1 : k0 ≤ 10000000) :
    Calls Try.prog 41 #[.agg #[.int .i64 f, .int .i64 el, .slice A n c, .int .i64 tag], .int .i64 k0] w
      fun e w' => e = .returned (.int .i64 (k0 + n)) ∧ Il.Own lo hi w' A n c (marks k0 n) ∧ w'.os = w.os ∧ w'.tape = w.tape ∧ w'.output = w.output ∧ w.heap.size ≤ w'.heap.size ∧ ∀ b, b < w.heap.size → b < lo ∨ hi ≤ b → w'.heap[b]? = w.heap[b]? := by
  obtain ⟨z0, hs0, hb0⟩ := one_blk w #[.int .i64 f, .int .i64 el, .slice A n c, .int .i64 tag] 27
  have O1 := Lib.hid (ho.below hb0 (Nat.le_refl _))
  have B0 := Lib.hid hb0
  clear ho hb0
  obtain ⟨k0', k1, k2, k3, kf⟩ := four_cells z0
  go_enter Try.func41, Try.ntmps41
  go_wp2_with fail
  ((with_reducible refine (Hlp.markIntS _ _ _ _ _ xs k0 _ O1.out hn h0 h1).mono ?_); rintro e w1 ⟨rfl, hm, hk⟩)
  have HM := Lib.hid hm
  have HK := Lib.hid hk
  clear hm hk k0' k1 k2 k3 kf z0
  go_wp2
  go_ret
  exact ⟨rfl, HM.out, HK.out.os.trans B0.out.os, HK.out.tape.trans B0.out.tape, HK.out.output.trans B0.out.output, Nat.le_trans B0.out.size (Nat.le_of_eq HK.out.size.symm), fun b hb hd => (HK.out.block b hd).trans (B0.out.block b hb)⟩
set_option maxRecDepth 20000 in
theorem heldBlock (f el tag : Int) (A : Option Addr) (n c lo hi : Nat) (k0 : Int) (w : World) (ho : Ints lo hi w A n c (marks k0 n)) (hn : n ≤ 10000000) (h0 : 0 ≤ k0) (h1 : k0 ≤ 10000000) :
    Calls Try.prog 42 #[.agg #[.int .i64 f, .int .i64 el, .slice A n c, .int .i64 tag], .int .i64 k0] w (IntB (k0 + n) w) := by
  obtain ⟨-, -, hb0⟩ := one_blk w #[.int .i64 f, .int .i64 el, .slice A n c, .int .i64 tag] 27
  have O1 := Lib.hid (ho.below hb0 (Nat.le_refl _))
  have B0 := Lib.hid hb0
  clear ho hb0
  go_enter Try.func42, Try.ntmps42
  go_wp2_with fail
  ((with_reducible refine (Hlp.heldIntS _ _ _ _ _ k0 _ O1.out hn h0 h1).mono ?_); rintro e w1 ⟨rfl, rfl⟩)
  have hd : decide (k0 + (n : Int) < 0) = false := by simp; omega
  go_wp2
  go_ret
  exact ⟨rfl, B0.out⟩

end H10
end Go.Proofs.Ytljfhddgifacnaa
