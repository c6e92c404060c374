/-
  Draws of chapter 31: tickets, spent serial numbers.
-/
import Derived.Test.YtecdoibdpimlaaaRda
import Derived.Test.YtecdoibdpimlaaaGrp
import Derived.Test.YtecdoibdpimlaaaAu12
import Derived.Deep.RegionLaw
import Derived.Deep.Cut
namespace Go.Proofs.Ytecdoibdpimlaaa
open Go.RowKit
namespace Rd
open Il Sl Gm Cm Cs Tk Sp12

theorem results_tmp_cell {fn : Func} {u p : Tmp} {ty : TypeId} (h : fn.results = #[.tmp u, .cell p ty]) (tmps : Array Value) (P : Program) (w : World) :
    (results fn tmps).run P w = ((asAddr (tmps.getD p undef)).run P w).andThen fun a w₁ => ((loadVar ty a).run P w₁).andThen fun v w₂ => .ok (.tuple #[tmps.getD u undef, v]) w₂ := by
  simp only [results, h]
  simp [Sem.run_bind, Result.andThen]
theorem results_ttc {fn : Func} {u v p : Tmp} {ty : TypeId} (h : fn.results = #[.tmp u, .tmp v, .cell p ty]) (tmps : Array Value) (P : Program) (w : World) :
    (results fn tmps).run P w = ((asAddr (tmps.getD p undef)).run P w).andThen fun a w₁ => ((loadVar ty a).run P w₁).andThen fun x w₂ => .ok (.tuple #[tmps.getD u undef, tmps.getD v undef, x]) w₂ := by
  simp only [results, h]
  simp [Sem.run_bind, Result.andThen]
theorem blk_grown {w w' : World} {b r : Nat} {cs : Array Value} {t : TypeId} (h : Blk w b cs t) (hg : w.grownBy w' (some r)) (hr : b ≠ r) : Blk w' b cs t := h.same (hg.block b h.lt (by simp; exact hr))
theorem grown_set {w w' : World} {rb : Nat} {p : Addr} {v : Value} (h : w.grownBy w' (some rb)) (hp : w.heap.size ≤ p.block) : w.grownBy (w'.setCell p v) (some rb) :=
  ⟨h.os, h.tape, h.output, by simpa [World.setCell] using h.size, fun i hi hne => (Below.heap_setCell _ _ _ _ (show i ≠ p.block by omega)).trans (h.block i hi hne)⟩
set_option maxRecDepth 20000 in
theorem l91Good (rb N : Nat) (w : World) (hr : Reader w rb N) (hN : N ≤ 90000) :
    Calls Try.prog 39 #[.pointer (some ⟨rb, 0, none⟩)] w (NumPost 1 996 rb (N + 2) w) := by
  have HR := Lib.hid hr
  clear hr
  go_enter Try.func39, Try.ntmps39
  go_wp2_with fail
  ((with_reducible refine (pick rb N _ _ HR.out (by omega) (by omega) (by omega)).mono ?_); rintro e w1 ⟨v1, rfl, hv0, hv1, r1, g1, s1⟩)
  have R1 := Lib.hid r1
  have G1 := Lib.hid g1
  clear r1 g1 s1
  go_wp2_with fail
  ((with_reducible refine (pick rb (N + 1) _ _ R1.out (by omega) (by omega) (by omega)).mono ?_); rintro e w2 ⟨v2, rfl, hu0, hu1, r2, g2, s2⟩)
  have H : Hid (∀ v : Int, 1 ≤ v → v ≤ 996 → NumPost 1 996 rb (N + 2) w (.returned (.int .i64 v)) w2) := fun v a b => ⟨v, rfl, a, b, r2.mono (by omega), grown_trans G1.out g2⟩
  clear r2 g2 s2
  go_wp2
  go_ret
  exact H.out _ (by omega) (by omega)
set_option maxRecDepth 20000 in
theorem l92Serial (rb N : Nat) (w : World) (hr : Reader w rb N) (hN : N ≤ 90000) :
    Calls Try.prog 22 #[.pointer (some ⟨rb, 0, none⟩)] w (NumPost (-1) 991 rb (N + 2) w) := by
  have HR := Lib.hid hr
  have hlt := hr.lt
  clear hr
  go_enter Try.func22, Try.ntmps22
  go_wp2_with fail
  ((with_reducible refine (pick rb N _ _ HR.out (by omega) (by omega) (by omega)).mono ?_); rintro e w1 ⟨v1, rfl, hv0, hv1, r1, g1, s1⟩)
  have R1 := Lib.hid r1
  have G1 := Lib.hid g1
  have l1 : rb < w1.heap.size := r1.lt
  clear r1 g1 s1
  by_cases hz : v1 = 0
  · subst hz
    go_wp2_with fail
    ((with_reducible refine (pick rb (N + 1) _ _ (R1.out.alloc _) (by omega) (by omega) (by omega)).mono ?_); rintro e w2 ⟨v2, rfl, hu0, hu1, r2, g2, s2⟩)
    have hb := (g2.block w1.heap.size (by simp) (by simp; omega)).trans (heap_alloc_new w1 _)
    have k0 := cell_of_row w2 w1.heap.size 0 _ _ _ hb
    have k1 := cell_of_row w2 w1.heap.size 1 _ _ _ hb
    have k2 := cell_of_row w2 w1.heap.size 2 _ _ _ hb
    simp only [List.getElem?_toArray, List.getElem?_cons_zero, List.getElem?_cons_succ] at k0 k1 k2
    have H : Hid (∀ v : Int, -1 ≤ v → v ≤ 991 → NumPost (-1) 991 rb (N + 2) w (.returned (.int .i64 v)) w2) := fun v a b =>
      ⟨v, rfl, a, b, r2.mono (by omega), grown_trans (grown_alloc G1.out _) g2⟩
    clear hb r2 g2 s2
    obtain rfl | rfl | rfl : v2 = 0 ∨ v2 = 1 ∨ v2 = 2 := by omega
    all_goals
      go_wp2
      go_ret
      exact H.out _ (by omega) (by omega)
  · have hz' : (v1 == 0) = false := by simpa using hz
    clear hz
    go_wp2_with fail
    ((with_reducible refine (pick rb (N + 1) _ _ R1.out (by omega) (by omega) (by omega)).mono ?_); rintro e w2 ⟨v2, rfl, hu0, hu1, r2, g2, s2⟩)
    have H : Hid (∀ v : Int, -1 ≤ v → v ≤ 991 → NumPost (-1) 991 rb (N + 2) w (.returned (.int .i64 v)) w2) := fun v a b =>
      ⟨v, rfl, a, b, r2.mono (by omega), grown_trans G1.out g2⟩
    clear r2 g2 s2
    go_wp2
    go_ret
    exact H.out _ (by omega) (by omega)
/-- A public key and a ticket are drawn. -/
def TickD (rb N : Nat) (w : World) (e : Ending) (w' : World) : Prop :=
  ∃ p s g : Int, e = .returned (.tuple #[.int .i64 p, .agg #[.int .i64 s, .int .i64 g]]) ∧ Reader w' rb N ∧ w.grownBy w' (some rb)
/-- What stands while a ticket is drawn: its box, the result's. -/
def TkR (rb N : Nat) (w wr : World) (bt : Nat) (s g : Int) : Prop := Reader wr rb N ∧ w.grownBy wr (some rb) ∧ Blk wr w.heap.size #[.int .i64 0, .int .i64 0] 26 ∧ Blk wr bt #[.int .i64 s, .int .i64 g] 26 ∧ w.heap.size < bt ∧ rb < w.heap.size
theorem TkR.step {rb N N' : Nat} {w wr w' : World} {bt : Nat} {s g : Int} (h : TkR rb N w wr bt s g) (hg : wr.grownBy w' (some rb)) (hr : Reader w' rb N') : TkR rb N' w w' bt s g := by
  obtain ⟨_, h2, h3, h4, h5, h6⟩ := h
  exact ⟨hr, grown_trans h2 hg, blk_grown h3 hg (by omega), blk_grown h4 hg (by omega), h5, h6⟩
theorem TkR.rd {rb N : Nat} {w wr : World} {bt : Nat} {s g : Int} (h : TkR rb N w wr bt s g) : Reader wr rb N := h.1
theorem TkR.lt_ {rb N : Nat} {w wr : World} {bt : Nat} {s g : Int} (h : TkR rb N w wr bt s g) : w.heap.size < bt := h.2.2.2.2.1
theorem TkR.up {rb N N' : Nat} {w wr : World} {bt : Nat} {s g : Int} (h : TkR rb N w wr bt s g) (hN : N ≤ N') : TkR rb N' w wr bt s g := ⟨h.1.mono hN, h.2⟩
theorem reader_set {w : World} {rb N : Nat} {p : Addr} {v : Value} (h : Reader w rb N) (hp : rb < p.block) : Reader (w.setCell p v) rb N := h.keep fun i hi => Below.heap_setCell _ _ _ _ (show i ≠ p.block by omega)
theorem TkR.set0 {rb N : Nat} {w wr : World} {bt : Nat} {s g : Int} (h : TkR rb N w wr bt s g) (x : Int) : TkR rb N w (wr.setCell ⟨bt, 0, none⟩ (.int .i64 x)) bt x g := by
  obtain ⟨h1, h2, h3, h4, h5, h6⟩ := h
  exact ⟨reader_set h1 (show rb < bt by omega), grown_set h2 (show w.heap.size ≤ bt by omega), h3.same (Below.heap_setCell _ _ _ _ (show w.heap.size ≠ bt by omega)), blk_set0 h4, h5, h6⟩
theorem TkR.set1 {rb N : Nat} {w wr : World} {bt : Nat} {s g : Int} (h : TkR rb N w wr bt s g) (x : Int) : TkR rb N w (wr.setCell ⟨bt, 1, none⟩ (.int .i64 x)) bt s x := by
  obtain ⟨h1, h2, h3, h4, h5, h6⟩ := h
  exact ⟨reader_set h1 (show rb < bt by omega), grown_set h2 (show w.heap.size ≤ bt by omega), h3.same (Below.heap_setCell _ _ _ _ (show w.heap.size ≠ bt by omega)), blk_set1 h4, h5, h6⟩
theorem TkR.fin {rb N : Nat} {w wr : World} {bt : Nat} {s g : Int} (h : TkR rb N w wr bt s g) (p : Int) : TickD rb N w (.returned (.tuple #[.int .i64 p, .agg #[.int .i64 s, .int .i64 g]])) ((wr.setCell ⟨w.heap.size, 0, none⟩ (.int .i64 s)).setCell ⟨w.heap.size, 1, none⟩ (.int .i64 g)) := by
  obtain ⟨h1, h2, h3, h4, h5, h6⟩ := h
  exact ⟨p, s, g, rfl, reader_set (reader_set h1 h6) h6, grown_set (grown_set h2 (Nat.le_refl _)) (Nat.le_refl _)⟩
theorem TkR.cells {rb N : Nat} {w wr : World} {bt : Nat} {s g : Int} (h : TkR rb N w wr bt s g) : (wr.cell? ⟨bt, 0, none⟩ = some (.int .i64 s) ∧ wr.cell? ⟨bt, 1, none⟩ = some (.int .i64 g) ∧ ∀ j, wr.frozen? ⟨bt, j, none⟩ = false) ∧ wr.cell? ⟨w.heap.size, 0, none⟩ = some (.int .i64 0) ∧ wr.cell? ⟨w.heap.size, 1, none⟩ = some (.int .i64 0) ∧ ∀ j, wr.frozen? ⟨w.heap.size, j, none⟩ = false := ⟨two_cells h.2.2.2.1, two_cells h.2.2.1⟩
theorem tkR_dr {rb N : Nat} {w wr : World} {bt : Nat} {s g : Int} (h : TkR rb N w wr bt s g) : TkR rb N w wr.drew bt s g := ⟨h.1, ⟨h.2.1.os, h.2.1.tape, h.2.1.output, h.2.1.size, h.2.1.block⟩, h.2.2⟩
theorem tickD_dr {rb N : Nat} {w w' : World} {e : Ending} (h : TickD rb N w e w') : TickD rb N w e w'.drew := by
  obtain ⟨p, s, g, h1, h2, h3⟩ := h
  exact ⟨p, s, g, h1, h2, ⟨h3.os, h3.tape, h3.output, h3.size, h3.block⟩⟩
theorem ints_upS {lo hi lo' n c : Nat} {w : World} {A : Option Addr} {xs : List Int} (h : Ints lo hi w A n c xs) (hl : lo' ≤ lo) : Ints lo' w.heap.size w A n c xs :=
  ⟨h.1, h.2.1, h.2.2.1, fun hn => by
    obtain ⟨b, off, e, h1, _, hz, hc⟩ := h.2.2.2 hn
    exact ⟨b, off, e, by omega, hz, hz, hc⟩⟩
set_option maxRecDepth 20000 in
set_option maxHeartbeats 2000000 in
theorem l92Ticket (rb N : Nat) (w : World) (hr : Reader w rb N) (hN : N ≤ 80000) :
    Calls Try.prog 31 #[.pointer (some ⟨rb, 0, none⟩)] w (TickD rb (N + 10) w) := by
  have hlt := hr.lt
  have hal : Below w.heap.size w (w.alloc (.cells #[.int .i64 0, .int .i64 0] 26)) := (Below.refl _ _).alloc (Nat.le_refl _) _
  have Z0 := Lib.hid (blk_new w #[.int .i64 0, .int .i64 0] 26)
  have G0 : Hid (w.grownBy (w.alloc (.cells #[.int .i64 0, .int .i64 0] 26)) (some rb)) := World.grownBy_alloc _ _ _
  have R0 := Lib.hid (hr.below hal hlt)
  clear hr hal
  go_enter Try.func31, Try.ntmps31
  go_wp2_with fail
  ((with_reducible refine (l91Good _ _ _ R0.out (by omega)).mono ?_); rintro e w1 ⟨x, rfl, hx0, hx1, r1, g1⟩)
  have Z1 := Lib.hid (blk_grown Z0.out g1 (by omega))
  have G1 := Lib.hid (grown_trans G0.out g1)
  have R1 := Lib.hid r1
  clear r1 g1 Z0 G0 R0
  go_wp2_with fail
  ((with_reducible refine (l92Serial _ _ _ R1.out (by omega)).mono ?_); rintro e w2 ⟨n, rfl, hn0, hn1, r2, g2⟩)
  have Z2 := Lib.hid (blk_grown Z1.out g2 (by omega))
  have G2 := Lib.hid (grown_trans G1.out g2)
  have R2 := Lib.hid r2
  clear r2 g2 Z1 G1 R1
  go_wp2_with fail
  ((with_reducible refine (TicketMake x n _).mono ?_); rintro e w3 ⟨rfl, hb3⟩)
  have hs2 : w.heap.size < w2.heap.size := Z2.out.lt
  have hs3 := hb3.size
  have R3 : Hid (TkR rb (N + 4) w (w3.alloc (.cells #[.int .i64 (mkS x n), .int .i64 (mkG x n)] 26)) w3.heap.size (mkS x n) (mkG x n)) := by
    have hal : Below w3.heap.size w3 (w3.alloc (.cells #[.int .i64 (mkS x n), .int .i64 (mkG x n)] 26)) := (Below.refl _ _).alloc (Nat.le_refl _) _
    have hB := hb3.trans (hal.mono hs3)
    exact ⟨R2.out.below hB (by omega), grown_trans G2.out ⟨hB.os, hB.tape, hB.output, hB.size, fun i hi _ => hB.block i hi⟩, Z2.out.below hB (Nat.le_refl _), blk_new _ _ _, by omega, hlt⟩
  clear hb3 Z2 G2 R2
  obtain ⟨bt, hbt⟩ : ∃ b, w3.heap.size = b := ⟨_, rfl⟩
  generalize mkS x n = s at *
  generalize mkG x n = g at *
  go_wp2_with fail
  ((with_reducible refine (Grp.sPublic x _).mono ?_); rintro e w4 ⟨rfl, rfl⟩)
  generalize mulG x 5 = p at *
  rw [hbt] at R3
  generalize w3.alloc (.cells #[.int .i64 s, .int .i64 g] 26) = w4 at *
  go_wp2_with fail
  ((with_reducible refine (pick _ _ _ _ R3.out.rd (by omega) (by omega) (by omega)).mono ?_); rintro e w5 ⟨v, rfl, hv0, hv1, r5, g5, s5⟩)
  have R5 := Lib.hid (R3.out.step g5 r5)
  clear r5 g5 s5 R3
  by_cases h0 : v = 0
  · subst h0
    go_wp2_with fail
    ((with_reducible refine (l91Is _ _ _ R5.out.rd (by omega)).mono ?_); rintro e w6 ⟨y, rfl, hy0, hy1, r6, g6⟩)
    have R6 := Lib.hid (R5.out.step g6 r6)
    clear r6 g6 R5
    obtain ⟨⟨k0, k1, kf⟩, z0, z1, zf⟩ := R6.out.cells
    have RR : Hid (TkR rb (N + 10) w (w6.setCell ⟨bt, 1, none⟩ (.int .i64 y)) bt s y) := (R6.out.set1 y).up (by omega)
    go_upto_region 11 with (fail)
    clear k0 k1 kf z0 z1 zf R6
    generalize w6.setCell ⟨bt, 1, none⟩ (.int .i64 y) = w7 at *
    obtain ⟨⟨k0, k1, kf⟩, z0, z1, zf⟩ := RR.out.cells
    have HNE : Hid (w.heap.size ≠ bt) := by have := RR.out.lt_; show _ ≠ _; omega
    have HP := Lib.hid (RR.out.fin p)
    clear RR
    go_wp2_with fail
    go_region
    go_wp2
    refine bodyPost_ret (v := .tuple #[.int .i64 p, .agg #[.int .i64 s, .int .i64 y]]) ?_ rfl ?_
    · rw [results_tmp_cell rfl]
      go_simp
    · first | exact HP.out | exact tickD_dr HP.out
  have h0' : (v == 0) = false := by simpa using h0
  by_cases h1 : v = 1
  · subst h1
    go_wp2_with fail
    ((with_reducible refine (l92Serial _ _ _ R5.out.rd (by omega)).mono ?_); rintro e w6 ⟨y, rfl, hy0, hy1, r6, g6⟩)
    have R6 := Lib.hid (R5.out.step g6 r6)
    clear r6 g6 R5
    obtain ⟨⟨k0, k1, kf⟩, z0, z1, zf⟩ := R6.out.cells
    have RR : Hid (TkR rb (N + 10) w (w6.setCell ⟨bt, 0, none⟩ (.int .i64 y)) bt y g) := (R6.out.set0 y).up (by omega)
    go_upto_region 11 with (fail)
    clear k0 k1 kf z0 z1 zf R6
    generalize w6.setCell ⟨bt, 0, none⟩ (.int .i64 y) = w7 at *
    obtain ⟨⟨k0, k1, kf⟩, z0, z1, zf⟩ := RR.out.cells
    have HNE : Hid (w.heap.size ≠ bt) := by have := RR.out.lt_; show _ ≠ _; omega
    have HP := Lib.hid (RR.out.fin p)
    clear RR
    go_wp2_with fail
    go_region
    go_wp2
    refine bodyPost_ret (v := .tuple #[.int .i64 p, .agg #[.int .i64 y, .int .i64 g]]) ?_ rfl ?_
    · rw [results_tmp_cell rfl]
      go_simp
    · first | exact HP.out | exact tickD_dr HP.out
  have h1' : (v == 1) = false := by simpa using h1
  by_cases h2 : v = 2
  · subst h2
    go_wp2_with fail
    ((with_reducible refine (l91Is _ _ _ R5.out.rd (by omega)).mono ?_); rintro e w6 ⟨y, rfl, hy0, hy1, r6, g6⟩)
    have RR := Lib.hid (R5.out.step g6 (r6.mono (show N + 4 + 1 + 3 ≤ N + 10 by omega)))
    clear r6 g6 R5
    obtain ⟨⟨k0, k1, kf⟩, z0, z1, zf⟩ := RR.out.cells
    have HNE : Hid (w.heap.size ≠ bt) := by have := RR.out.lt_; show _ ≠ _; omega
    have HP := Lib.hid (RR.out.fin y)
    clear RR
    go_wp2_with fail
    go_region
    go_wp2
    refine bodyPost_ret (v := .tuple #[.int .i64 y, .agg #[.int .i64 s, .int .i64 g]]) ?_ rfl ?_
    · rw [results_tmp_cell rfl]
      go_simp
    · first | exact HP.out | exact tickD_dr HP.out
  · have h2' : (v == 2) = false := by simpa using h2
    have RR : Hid (TkR rb (N + 10) w w5 bt s g) := R5.out.up (by omega)
    clear R5
    obtain ⟨⟨k0, k1, kf⟩, z0, z1, zf⟩ := RR.out.cells
    have HNE : Hid (w.heap.size ≠ bt) := by have := RR.out.lt_; show _ ≠ _; omega
    have HP := Lib.hid (RR.out.fin p)
    clear RR
    go_wp2_with fail
    go_region
    go_wp2
    refine bodyPost_ret (v := .tuple #[.int .i64 p, .agg #[.int .i64 s, .int .i64 g]]) ?_ rfl ?_
    · rw [results_tmp_cell rfl]
      go_simp
    · first | exact HP.out | exact tickD_dr HP.out
/-- Spent serial numbers are drawn. -/
def SpentD (rb N : Nat) (w : World) (e : Ending) (w' : World) : Prop :=
  ∃ A c xs, e = .returned (.slice A xs.length c) ∧ Il.Own w.heap.size w'.heap.size w' A xs.length c xs ∧ Reader w' rb N ∧ w.grownBy w' (some rb)
def SpR2 (rb N : Nat) (w wr : World) (v : Value) (j : Nat) : Prop := ∃ ys : List Int, ys.length ≤ j ∧ AccR (some rb) w wr v ys ∧ Reader wr rb (N + j)
theorem spentD_of {rb N N' : Nat} {w wr : World} {v : Value} {ys : List Int} (h : AccR (some rb) w wr v ys) (hr : Reader wr rb N) (hN : N ≤ N') : SpentD rb N' w (.returned v) wr := by
  obtain ⟨A, c, rfl, ho⟩ := own_of h.1
  exact ⟨A, c, ys, rfl, ho, hr.mono hN, h.2⟩
set_option maxRecDepth 20000 in
set_option maxHeartbeats 2000000 in
theorem l92Spent (rb N : Nat) (w : World) (hr : Reader w rb N) (hN : N ≤ 80000) :
    Calls Try.prog 32 #[.pointer (some ⟨rb, 0, none⟩)] w (SpentD rb (N + 50) w) := by
  have hlt := hr.lt
  have HA := Lib.hid (accR_new (some rb) w)
  have R0 := Lib.hid (hr.alloc (.cells #[] 3))
  clear hr
  go_enter Try.func32, Try.ntmps32
  go_wp2_with fail
  ((with_reducible refine (pick _ _ _ _ R0.out (by omega) (by omega) (by omega)).mono ?_); rintro e w1 ⟨v1, rfl, hv0, hv1, r1, g1, s1⟩)
  have HR : Hid (SpR2 rb (N + 1) w w1 (.slice (some ⟨w.heap.size, 0, none⟩) 0 0) 0) := ⟨[], Nat.le_refl _, HA.out.step g1 (by simp; omega), r1⟩
  clear r1 g1 s1 HA R0
  have hmost : ∃ m : Int, (if v1 = 0 then (1 : Int) else 3) = m ∧ 1 ≤ m ∧ m ≤ 3 := by split <;> exact ⟨_, rfl, by omega, by omega⟩
  obtain ⟨m, hm, hm1, hm3⟩ := hmost
  by_cases hz : v1 = 0
  · subst hz
    rw [if_pos rfl] at hm
    subst hm
    go_wp2
    go_loopw [3, 5] (fun v i wr => ∃ j : Nat, j ≤ 40 ∧ i = .int .i64 j ∧ Hid (SpR2 rb (N + 1) w wr v j)) (fun _ i _ => 40 - (intOf i).toNat)
    case atStart => exact ⟨0, Nat.zero_le _, rfl, HR.out⟩
    case round =>
      obtain ⟨j, hj, rfl, hT⟩ := hrel
      clear HR
      obtain ⟨ys, hl, ha, hrd⟩ := hT.out
      have HAc := Lib.hid ha
      have HRd := Lib.hid hrd
      obtain ⟨A, c, rfl, _⟩ := own_of ha.1
      clear hT ha hrd
      by_cases hgo : j < 40 ∧ ys.length < 20
      · obtain ⟨hj40, hy20⟩ := hgo
        have hy20' : ((ys.length : Nat) : Int) < 20 := by omega
        go_wp2_with fail
        ((with_reducible refine (pick _ _ _ _ HRd.out (by omega) (by omega) (by omega)).mono ?_); rintro e w4 ⟨x, rfl, hx0, hx1, r4, g4, s4⟩)
        have A4 := Lib.hid (HAc.out.step g4 (by simp; omega))
        have R4 := Lib.hid r4
        clear r4 g4 s4 HAc HRd
        by_cases hx : x = 0
        · subst hx
          go_wp2_with (at_builtin; refine wpList_app1 w _ _ _ _ A4.out (by omega) _ _ rfl rfl rfl rfl ?_; intro v' w5 hN5 hB5)
          have HN : Hid (SpR2 rb (N + 1) w w5 v' (j + 1)) := ⟨ys ++ [(j : Int)], by simp; omega, hN5, (R4.out.below hB5 (by omega)).mono (by omega)⟩
          clear hN5 hB5 A4 R4
          go_wp2
          go_roundw
          case rel => exact ⟨j + 1, by omega, by go_num, HN.out⟩
          case measure => simp [intOf]; omega
        · have hx' : (x == 0) = false := by simpa using hx
          have HN : Hid (SpR2 rb (N + 1) w w4 (.slice A ys.length c) (j + 1)) := ⟨ys, by omega, A4.out, R4.out.mono (by omega)⟩
          clear A4 R4 hx
          go_wp2
          go_roundw
          case rel => exact ⟨j + 1, by omega, by go_num, HN.out⟩
          case measure => simp [intOf]; omega
      · have hend : decide ((j : Int) < 40) = false ∨ (decide ((j : Int) < 40) = true ∧ decide ((ys.length : Int) < 20) = false) := by
          by_cases h40 : j < 40
          · refine .inr ⟨by simp; omega, ?_⟩
            have : ¬ ys.length < 20 := fun h => hgo ⟨h40, h⟩
            simp; omega
          · exact .inl (by simp; omega)
        clear hgo
        rcases hend with hd | ⟨hd1, hd⟩
        all_goals
          go_wp2_with fail
          ((with_reducible refine (pick _ _ _ _ HRd.out (by omega) (by omega) (by omega)).mono ?_); rintro e w4 ⟨x, rfl, hx0, hx1, r4, g4, s4⟩)
          have A4 := Lib.hid (HAc.out.step g4 (by simp; omega))
          have R4 := Lib.hid r4
          clear r4 g4 s4 HAc HRd
          by_cases hx : x = 0
          · subst hx
            go_wp2_with fail
            ((with_reducible refine (pick _ _ _ _ R4.out (by omega) (by omega) (by omega)).mono ?_); rintro e w5 ⟨y, rfl, hy0, hy1, r5, g5, s5⟩)
            have A5 := Lib.hid (A4.out.step g5 (by simp; omega))
            have R5 := Lib.hid r5
            clear r5 g5 s5 A4 R4
            go_wp2_with (at_builtin; refine wpList_app1 w _ _ _ _ A5.out (by omega) _ _ rfl rfl rfl rfl ?_; intro v' w6 hN6 hB6)
            have HP := Lib.hid (spentD_of (N' := N + 50) hN6 (R5.out.below hB6 (by omega)) (by omega))
            clear hN6 hB6 A5 R5
            go_wp2
            go_ret
            exact HP.out
          · have hx' : (x == 0) = false := by simpa using hx
            have HP := Lib.hid (spentD_of (N' := N + 50) A4.out R4.out (by omega))
            clear A4 R4 hx
            go_wp2
            go_ret
            exact HP.out
  · have hz' : (v1 == 0) = false := by simpa using hz
    rw [if_neg hz] at hm
    subst hm
    clear hz
    go_wp2
    go_loopw [3, 5] (fun v i wr => ∃ j : Nat, j ≤ 40 ∧ i = .int .i64 j ∧ Hid (SpR2 rb (N + 1) w wr v j)) (fun _ i _ => 40 - (intOf i).toNat)
    case atStart => exact ⟨0, Nat.zero_le _, rfl, HR.out⟩
    case round =>
      obtain ⟨j, hj, rfl, hT⟩ := hrel
      clear HR
      obtain ⟨ys, hl, ha, hrd⟩ := hT.out
      have HAc := Lib.hid ha
      have HRd := Lib.hid hrd
      obtain ⟨A, c, rfl, _⟩ := own_of ha.1
      clear hT ha hrd
      by_cases hgo : j < 40 ∧ ys.length < 20
      · obtain ⟨hj40, hy20⟩ := hgo
        have hy20' : ((ys.length : Nat) : Int) < 20 := by omega
        go_wp2_with fail
        ((with_reducible refine (pick _ _ _ _ HRd.out (by omega) (by omega) (by omega)).mono ?_); rintro e w4 ⟨x, rfl, hx0, hx1, r4, g4, s4⟩)
        have A4 := Lib.hid (HAc.out.step g4 (by simp; omega))
        have R4 := Lib.hid r4
        clear r4 g4 s4 HAc HRd
        by_cases hx : x = 0
        · subst hx
          go_wp2_with (at_builtin; refine wpList_app1 w _ _ _ _ A4.out (by omega) _ _ rfl rfl rfl rfl ?_; intro v' w5 hN5 hB5)
          have HN : Hid (SpR2 rb (N + 1) w w5 v' (j + 1)) := ⟨ys ++ [(j : Int)], by simp; omega, hN5, (R4.out.below hB5 (by omega)).mono (by omega)⟩
          clear hN5 hB5 A4 R4
          go_wp2
          go_roundw
          case rel => exact ⟨j + 1, by omega, by go_num, HN.out⟩
          case measure => simp [intOf]; omega
        · have hx' : (x == 0) = false := by simpa using hx
          have HN : Hid (SpR2 rb (N + 1) w w4 (.slice A ys.length c) (j + 1)) := ⟨ys, by omega, A4.out, R4.out.mono (by omega)⟩
          clear A4 R4 hx
          go_wp2
          go_roundw
          case rel => exact ⟨j + 1, by omega, by go_num, HN.out⟩
          case measure => simp [intOf]; omega
      · have hend : decide ((j : Int) < 40) = false ∨ (decide ((j : Int) < 40) = true ∧ decide ((ys.length : Int) < 20) = false) := by
          by_cases h40 : j < 40
          · refine .inr ⟨by simp; omega, ?_⟩
            have : ¬ ys.length < 20 := fun h => hgo ⟨h40, h⟩
            simp; omega
          · exact .inl (by simp; omega)
        clear hgo
        rcases hend with hd | ⟨hd1, hd⟩
        all_goals
          go_wp2_with fail
          ((with_reducible refine (pick _ _ _ _ HRd.out (by omega) (by omega) (by omega)).mono ?_); rintro e w4 ⟨x, rfl, hx0, hx1, r4, g4, s4⟩)
          have A4 := Lib.hid (HAc.out.step g4 (by simp; omega))
          have R4 := Lib.hid r4
          clear r4 g4 s4 HAc HRd
          by_cases hx : x = 0
          · subst hx
            go_wp2_with fail
            ((with_reducible refine (pick _ _ _ _ R4.out (by omega) (by omega) (by omega)).mono ?_); rintro e w5 ⟨y, rfl, hy0, hy1, r5, g5, s5⟩)
            have A5 := Lib.hid (A4.out.step g5 (by simp; omega))
            have R5 := Lib.hid r5
            clear r5 g5 s5 A4 R4
            go_wp2_with (at_builtin; refine wpList_app1 w _ _ _ _ A5.out (by omega) _ _ rfl rfl rfl rfl ?_; intro v' w6 hN6 hB6)
            have HP := Lib.hid (spentD_of (N' := N + 50) hN6 (R5.out.below hB6 (by omega)) (by omega))
            clear hN6 hB6 A5 R5
            go_wp2
            go_ret
            exact HP.out
          · have hx' : (x == 0) = false := by simpa using hx
            have HP := Lib.hid (spentD_of (N' := N + 50) A4.out R4.out (by omega))
            clear A4 R4 hx
            go_wp2
            go_ret
            exact HP.out
theorem codeIs_alloc {w : World} {A0 : Option Addr} {n0 c0 : Nat} (h : CodeIs w A0 n0 c0) (o : Obj) : CodeIs (w.alloc o) A0 n0 c0 := by
  refine ⟨h.1, h.2.1, fun hn => ?_⟩
  have hal : Below w.heap.size w (w.alloc o) := (Below.refl _ _).alloc (Nat.le_refl _) _
  obtain ⟨b, off, e, hb, hc⟩ := h.2.2 hn
  refine ⟨b, off, e, Nat.lt_of_lt_of_le hb hal.size, fun j hj => ?_⟩
  obtain ⟨u, hu, hcell⟩ := hc j hj
  exact ⟨u, hu, (hal.cell (p := ⟨b, off + j, none⟩) hb).trans hcell⟩
/-- The world behind a reader that was opened there. -/
theorem below_rd {w w1 w2 : World} {rb : Nat} (hb : Below w.heap.size w w1) (hrb : w.heap.size ≤ rb) (hg : w1.grownBy w2 (some rb)) : Below w.heap.size w w2 := hb.grown hg hb.size fun k e => by cases e; exact hrb
/-- Two numbers are drawn. -/
def TwoN (w : World) (e : Ending) (w' : World) : Prop := ∃ s n : Int, e = .returned (.tuple #[.int .i64 s, .int .i64 n]) ∧ Below w.heap.size w w'
set_option maxRecDepth 20000 in
theorem DrawTicketMake (A : Option Addr) (n c : Nat) (w : World) (h : CodeIs w A n c) : Calls Try.prog 6 #[.slice A n c] w (TwoN w) := by
  go_enter Try.func6, Try.ntmps6
  go_wp2_with fail
  ((with_reducible refine (l6Open A n c w h).mono ?_); rintro e w1 ⟨rfl, hr1, hb1, hs1⟩)
  have HB1 := Lib.hid hb1
  have HR1 := Lib.hid hr1
  clear hb1 hr1
  go_wp2_with fail
  ((with_reducible refine (l91Is _ _ _ HR1.out (by omega)).mono ?_); rintro e w2 ⟨x, rfl, hx0, hx1, r2, g2⟩)
  have HB2 := Lib.hid (below_rd HB1.out (Nat.le_refl _) g2)
  have HR2 := Lib.hid r2
  have HS2 := Lib.hid g2.size
  clear r2 g2
  go_wp2_with fail
  ((with_reducible refine (l92Serial _ _ _ HR2.out (by omega)).mono ?_); rintro e w3 ⟨y, rfl, hy0, hy1, r3, g3⟩)
  have HP : Hid (TwoN w (.returned (.tuple #[.int .i64 x, .int .i64 y])) w3) := ⟨x, y, rfl, HB2.out.grown g3 HB2.out.size fun k e => by cases e; exact Nat.le_refl _⟩
  clear r3 g3
  go_wp2
  go_ret2
  exact HP.out
/-- A public key and a ticket are drawn. -/
def TickN (w : World) (e : Ending) (w' : World) : Prop := ∃ p s g : Int, e = .returned (.tuple #[.int .i64 p, .agg #[.int .i64 s, .int .i64 g]]) ∧ Below w.heap.size w w'
set_option maxRecDepth 20000 in
theorem DrawTicketCheck (A : Option Addr) (n c : Nat) (w : World) (h : CodeIs w A n c) : Calls Try.prog 12 #[.slice A n c] w (TickN w) := by
  have Z0 := Lib.hid (blk_new w #[.int .i64 0, .int .i64 0] 26)
  have HC := Lib.hid (codeIs_alloc h (.cells #[.int .i64 0, .int .i64 0] 26))
  have HB0 : Hid (Below w.heap.size w (w.alloc (.cells #[.int .i64 0, .int .i64 0] 26))) := (Below.refl _ _).alloc (Nat.le_refl _) _
  have hsz : (w.alloc (.cells #[.int .i64 0, .int .i64 0] 26)).heap.size = w.heap.size + 1 := by simp
  have HSZ := Lib.hid hsz
  clear h hsz
  go_enter Try.func12, Try.ntmps12
  go_wp2_with fail
  ((with_reducible refine (l6Open _ _ _ _ HC.out).mono ?_); rintro e w1 ⟨rfl, hr1, hb1, hs1⟩)
  rw [HSZ.out] at hr1 hb1 hs1 ⊢
  have Z1 := Lib.hid (Z0.out.below hb1 (by rw [HSZ.out]; exact Nat.le_refl _))
  have HB1 := Lib.hid (HB0.out.trans (hb1.mono (by omega)))
  have HR1 := Lib.hid hr1
  clear hb1 hr1 Z0 HB0 HC HSZ hs1
  go_wp2_with fail
  ((with_reducible refine (l92Ticket _ _ _ HR1.out (by omega)).mono ?_); rintro e w2 ⟨p, s, g, rfl, r2, g2⟩)
  have Z2 := Lib.hid (blk_grown Z1.out g2 (by omega))
  have HB2 := Lib.hid (below_rd HB1.out (Nat.le_succ _) g2)
  obtain ⟨z0, z1, zf⟩ := two_cells Z2.out
  have HP : Hid (TickN w (.returned (.tuple #[.int .i64 p, .agg #[.int .i64 s, .int .i64 g]])) ((w2.setCell ⟨w.heap.size, 0, none⟩ (.int .i64 s)).setCell ⟨w.heap.size, 1, none⟩ (.int .i64 g))) := ⟨p, s, g, rfl, (HB2.out.setCell (p := ⟨w.heap.size, 0, none⟩) (Nat.le_refl _) _).setCell (p := ⟨w.heap.size, 1, none⟩) (Nat.le_refl _) _⟩
  clear r2 g2 Z1 HB1 HR1
  go_wp2
  refine bodyPost_ret (v := .tuple #[.int .i64 p, .agg #[.int .i64 s, .int .i64 g]]) ?_ rfl ?_
  · rw [results_tmp_cell rfl]
    go_simp
  · exact HP.out
/-- Two lists are drawn. -/
def TwoL (w : World) (e : Ending) (w' : World) : Prop := ∃ A c B d a b, e = .returned (.tuple #[.slice A a.length c, .slice B b.length d]) ∧ Ints w.heap.size w'.heap.size w' A a.length c a ∧ Ints w.heap.size w'.heap.size w' B b.length d b ∧ Below w.heap.size w w'
set_option maxRecDepth 20000 in
theorem DrawTicketAudit (A : Option Addr) (n c : Nat) (w : World) (h : CodeIs w A n c) : Calls Try.prog 15 #[.slice A n c] w (TwoL w) := by
  go_enter Try.func15, Try.ntmps15
  go_wp2_with fail
  ((with_reducible refine (l6Open A n c w h).mono ?_); rintro e w1 ⟨rfl, hr1, hb1, hs1⟩)
  have HB1 := Lib.hid hb1
  have HR1 := Lib.hid hr1
  have hrl := hr1.lt
  clear hb1 hr1
  go_wp2_with fail
  ((with_reducible refine (l92Spent _ _ _ HR1.out (by omega)).mono ?_); rintro e w2 ⟨A2, c2, a, rfl, o2, r2, g2⟩)
  have HB2 := Lib.hid (below_rd HB1.out (Nat.le_refl _) g2)
  have HR2 := Lib.hid r2
  have hs2 := g2.size
  have I2 := Lib.hid o2.ints
  clear r2 g2 o2
  go_wp2_with fail
  ((with_reducible refine (l92Spent _ _ _ HR2.out (by omega)).mono ?_); rintro e w3 ⟨A3, c3, b, rfl, o3, r3, g3⟩)
  have HP : Hid (TwoL w (.returned (.tuple #[.slice A2 a.length c2, .slice A3 b.length c3])) w3) :=
    ⟨A2, c2, A3, c3, a, b, rfl, ints_upS (I2.out.grown g3 (fun k e => by cases e; left; omega)) (by omega), ints_upS o3.ints (by omega), HB2.out.grown g3 HB2.out.size fun k e => by cases e; exact Nat.le_refl _⟩
  clear r3 g3 o3
  go_wp2
  go_ret2
  exact HP.out
end Rd
end Go.Proofs.Ytecdoibdpimlaaa
