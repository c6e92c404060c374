/-
  Draws of chapter 32: flows.
-/
import Derived.Test.YtcbhjnjallnidaaRda
import Derived.Test.YtcbhjnjallnidaaFp
import Derived.Test.YtcbhjnjallnidaaFd
namespace Go.Proofs.Ytcbhjnjallnidaa
open Go.RowKit
namespace Rd
open Il Sl Fc Fp

theorem below_rd {w w1 w2 : World} {rb : Nat} (hb : Below w.heap.size w w1) (hrb : w.heap.size ≤ rb) (hg : w1.grownBy w2 (some rb)) : Below w.heap.size w w2 := hb.grown hg hb.size fun k e => by cases e; exact hrb
theorem grown_set {w w' : World} {rb : Nat} {p : Addr} {v : Value} (h : w.grownBy w' (some rb)) (hp : w.heap.size ≤ p.block) : w.grownBy (w'.setCell p v) (some rb) :=
  ⟨h.os, h.tape, h.output, by simpa [World.setCell] using h.size, fun i hi hne => (Below.heap_setCell _ _ _ _ (show i ≠ p.block by omega)).trans (h.block i hi hne)⟩
/-- Names are not great. -/
def Small (xs : List Fl) : Prop := ∀ x ∈ xs, 0 ≤ x.nm ∧ x.nm ≤ 28
theorem small_nil : Small [] := fun x hx => by simp at hx
theorem small_snoc {xs : List Fl} {c : Fl} (h : Small xs) (hc : 0 ≤ c.nm ∧ c.nm ≤ 28) : Small (xs ++ [c]) := fun x hx => by
  rcases List.mem_append.1 hx with q | q
  · exact h x q
  · rw [List.mem_singleton] at q; rw [q]; exact hc
/-- Flows are drawn. -/
def FlwPost (rb N : Nat) (w : World) (e : Ending) (w' : World) : Prop :=
  ∃ A c xs, e = .returned (.slice A xs.length c) ∧ (xs.length ≤ 17 ∧ Small xs) ∧ FlsO w.heap.size w'.heap.size w' A xs.length c xs ∧ Reader w' rb N ∧ w.grownBy w' (some rb)
/-- While flows are drawn. -/
def FwR (rb N : Nat) (w wr : World) (v : Value) (out : List Fl) : Prop := Reader wr rb N ∧ w.grownBy wr (some rb) ∧ rb < w.heap.size ∧ ∃ g, w.heap.size ≤ g ∧ Gat g wr v out
/-- .. and a flow lies in a variable. -/
def FwX (rb N b : Nat) (w wr : World) (v : Value) (out : List Fl) (x : Fl) : Prop :=
  Reader wr rb N ∧ w.grownBy wr (some rb) ∧ rb < w.heap.size ∧ ∃ g, w.heap.size ≤ g ∧ g < b ∧ Gat g wr v out ∧ Blk1 wr b x
section
variable {rb N b : Nat} {w wr w2 : World} {v : Value} {out : List Fl} {x : Fl}
theorem FwR.rd (h : FwR rb N w wr v out) : Reader wr rb N := h.1
theorem FwX.rd (h : FwX rb N b w wr v out x) : Reader wr rb N := h.1
theorem FwX.blk (h : FwX rb N b w wr v out x) : Blk1 wr b x := by
  obtain ⟨_, _, _, _, _, _, _, h⟩ := h
  exact h
theorem fwR_new {w0 : World} (hr : Reader w0 rb N) : FwR rb N w0 (w0.alloc (.cells #[] 28)) (.slice (some ⟨w0.heap.size, 0, none⟩) 0 0) [] :=
  ⟨hr.alloc _, World.grownBy_alloc _ _ _, hr.lt, w0.heap.size, Nat.le_refl _, gat_new w0⟩
theorem FwR.grown {M : Nat} (h : FwR rb N w wr v out) (hg : wr.grownBy w2 (some rb)) (hr : Reader w2 rb M) : FwR rb M w w2 v out := by
  obtain ⟨_, h2, h3, g, h4, h5⟩ := h
  exact ⟨hr, grown_trans h2 hg, h3, g, h4, h5.block (hg.block g h5.lt (by simp; omega))⟩
theorem FwR.box (h : FwR rb N w wr v out) (x : Fl) : FwX rb N wr.heap.size w (wr.alloc (.cells #[.int .i64 x.fr, .int .i64 x.to, .int .i64 x.nm] 28)) v out x := by
  obtain ⟨h1, h2, h3, g, h4, h5⟩ := h
  exact ⟨h1.alloc _, grown_alloc h2 _, h3, g, h4, h5.lt, h5.block (Below.heap_alloc _ _ _ h5.lt), heap_alloc_new _ _⟩
theorem FwX.grown {M : Nat} (h : FwX rb N b w wr v out x) (hg : wr.grownBy w2 (some rb)) (hr : Reader w2 rb M) : FwX rb M b w w2 v out x := by
  obtain ⟨_, h2, h3, g, h4, h5, h6, h7⟩ := h
  exact ⟨hr, grown_trans h2 hg, h3, g, h4, h5, h6.block (hg.block g h6.lt (by simp; omega)), h7.same (hg.block b h7.lt (by simp; omega))⟩
theorem FwX.set0 (h : FwX rb N b w wr v out x) (y : Int) : FwX rb N b w (wr.setCell ⟨b, 0, none⟩ (.int .i64 y)) v out ⟨y, x.to, x.nm⟩ := by
  obtain ⟨h1, h2, h3, g, h4, h5, h6, h7⟩ := h
  exact ⟨h1.keep fun i hi => Below.heap_setCell _ _ _ _ (show i ≠ b by omega), grown_set h2 (show w.heap.size ≤ b by omega), h3, g, h4, h5, h6.block (Below.heap_setCell _ _ _ _ (show g ≠ b by omega)), h7.set0 y⟩
theorem FwX.gat (h : FwX rb N b w wr v out x) : ∃ g, Gat g wr v out ∧ ∀ g' v' w', Gat g' w' v' (out ++ [x]) → (g' = g ∨ wr.heap.size ≤ g') → wr.grownBy w' (some g) → FwR rb N w w' v' (out ++ [x]) := by
  obtain ⟨h1, h2, h3, g, h4, h5, h6, h7⟩ := h
  have hs := h2.size
  have hgl := h6.lt
  refine ⟨g, h6, fun g' v' w' q1 q2 q3 => ⟨h1.keep fun i hi => q3.block i (by have := h1.lt; omega) (by simp; omega), grown_trans' h2 q3 (fun k e => by cases e; exact h4), h3, g', by omega, q1⟩⟩
theorem FwR.post (h : FwR rb N w wr v out) (hs : out.length ≤ 17 ∧ Small out) {M : Nat} (hM : N ≤ M) : FlwPost rb M w (.returned v) wr := by
  obtain ⟨h1, h2, h3, g, h4, h5⟩ := h
  obtain ⟨A, c, rfl, ho⟩ := h5.own
  have := h5.lt
  exact ⟨A, c, out, rfl, hs, ho.mono h4 (by omega), h1.mono hM, h2⟩
end
theorem FwR.mono {rb N M : Nat} {w wr : World} {v : Value} {out : List Fl} (h : FwR rb N w wr v out) (hM : N ≤ M) : FwR rb M w wr v out := ⟨h.1.mono hM, h.2⟩
set_option maxRecDepth 20000 in
set_option maxHeartbeats 4000000 in
theorem l92Flows (rb N : Nat) (w : World) (hr : Reader w rb N) (hN : N ≤ 80000) :
    Calls Try.prog 23 #[.pointer (some ⟨rb, 0, none⟩)] w (FlwPost rb (N + 100) w) := by
  have H0 := Lib.hid (fwR_new hr)
  clear hr
  go_enter Try.func23, Try.ntmps23
  go_wp2_with fail
  ((with_reducible refine (pick rb N 9 _ H0.out.rd (by omega) (by omega) (by omega)).mono ?_); rintro e w1 ⟨n1, rfl, hn0, hn1, r1, g1, s1⟩)
  have H1 := Lib.hid (H0.out.grown g1 r1)
  clear r1 g1 s1 H0
  go_wp2_with fail
  ((with_reducible refine (pick rb (N + 1) 20 _ H1.out.rd (by omega) (by omega) (by omega)).mono ?_); rintro e w2 ⟨v2, rfl, hv0, hv1, r2, g2, s2⟩)
  have H2 := Lib.hid (H1.out.grown g2 r2)
  clear r2 g2 s2 H1
  by_cases hz : v2 = 0
  · subst hz
    go_wp2_with fail
    ((with_reducible refine (pick rb (N + 1 + 1) 2 _ H2.out.rd (by omega) (by omega) (by omega)).mono ?_); rintro e w3 ⟨v3, rfl, hu0, hu1, r3, g3, s3⟩)
    have H3 : Hid (FwR rb (N + 3 + 5 * 0) w w3 _ []) := (H2.out.grown g3 r3)
    clear r3 g3 s3 H2
    obtain rfl | rfl : v3 = 0 ∨ v3 = 1 := by omega
    · have _h := trivial
      go_wp2
      go_loopw [3, 5, 6] (fun v i _ wr => ∃ (k : Nat) (out : List Fl), k ≤ 16 ∧ i = .int .i64 (k : Int) ∧ Hid (k = out.length ∧ Small out) ∧ Hid (FwR rb (N + 3 + 5 * k) w wr v out)) (fun _ i _ _ => 16 - (intOf i).toNat)
      case atStart => exact ⟨0, [], Nat.zero_le _, rfl, ⟨rfl, small_nil⟩, H3.out⟩
      case round =>
        obtain ⟨k, out, hk, rfl, hO, hR⟩ := hrel
        clear H3
        by_cases hlt : k < 16
        · have HO := Lib.hid hO.out
          have hki : decide ((k : Int) < 16) = true := by simp; omega
          go_wp2_with fail
          ((with_reducible refine (pick _ _ 5 _ hR.out.rd (by omega) (by omega) (by omega)).mono ?_); rintro e w4 ⟨p1, rfl, ha0, ha1, r4, g4, s4⟩)
          have H4 := Lib.hid (hR.out.grown g4 r4)
          clear r4 g4 s4 hR hO
          go_wp2_with fail
          ((with_reducible refine (pick _ _ 5 _ H4.out.rd (by omega) (by omega) (by omega)).mono ?_); rintro e w5 ⟨p2, rfl, hb0, hb1, r5, g5, s5⟩)
          have H5 := Lib.hid (H4.out.grown g5 r5)
          clear r5 g5 s5 H4
          go_wp2_with fail
          ((with_reducible refine (pick _ _ 5 _ H5.out.rd (by omega) (by omega) (by omega)).mono ?_); rintro e w6 ⟨p3, rfl, hc0, hc1, r6, g6, s6⟩)
          have H6 := Lib.hid ((H5.out.grown g6 r6).box ⟨p1 - 1, p2 - 1, p3 * 7⟩)
          clear r6 g6 s6 H5
          have ew1 : IntKind.i64.wrap (p1 - 1) = p1 - 1 := IntWalk.i64_in _ (by omega)
          have ew2 : IntKind.i64.wrap (p2 - 1) = p2 - 1 := IntWalk.i64_in _ (by omega)
          have ew3 : IntKind.i64.wrap (p3 * 7) = p3 * 7 := IntWalk.i64_in _ (by omega)
          go_wp2_with fail
          ((with_reducible refine (pick _ _ 40 _ H6.out.rd (by omega) (by omega) (by omega)).mono ?_); rintro e w7 ⟨p4, rfl, hd0, hd1, r7, g7, s7⟩)
          have H7 := Lib.hid (H6.out.grown g7 r7)
          clear r7 g7 s7 H6
          by_cases hz4 : p4 = 0
          · subst hz4
            go_wp2_with fail
            ((with_reducible refine (pick _ _ 2 _ H7.out.rd (by omega) (by omega) (by omega)).mono ?_); rintro e w8 ⟨p5, rfl, he0, he1, r8, g8, s8⟩)
            have ew4 : IntKind.i64.wrap (p5 * 10) = p5 * 10 := IntWalk.i64_in _ (by omega)
            have ew5 : IntKind.i64.wrap (p5 * 10 - 2) = p5 * 10 - 2 := IntWalk.i64_in _ (by omega)
            have H8a := Lib.hid (H7.out.grown g8 r8)
            have H8 := Lib.hid (H8a.out.set0 (p5 * 10 - 2))
            obtain ⟨y0, y1, y2, yf0, yf1, yf2⟩ := H8a.out.blk.cells
            clear r8 g8 s8 H7 H8a
            obtain ⟨g, hG, hA⟩ := H8.out.gat
            have HGA := Lib.hid hA
            have HG := Lib.hid hG
            obtain ⟨x0, x1, x2, xf0, xf1, xf2⟩ := H8.out.blk.cells
            have hol : out.length ≤ 100000 := by have := HO.out.1; omega
            have HO9 : Hid (k + 1 = (out ++ [(⟨p5 * 10 - 2, p2 - 1, p3 * 7⟩ : Fl)]).length ∧ Small (out ++ [(⟨p5 * 10 - 2, p2 - 1, p3 * 7⟩ : Fl)])) := ⟨by rw [List.length_append, ← HO.out.1]; rfl, small_snoc HO.out.2 ⟨by show 0 ≤ p3 * 7; omega, by show p3 * 7 ≤ 28; omega⟩⟩
            clear hG hA
            go_wp2_with (at_builtin; refine Fc.wpList_gApp g _ _ out HG.out (⟨p5 * 10 - 2, p2 - 1, p3 * 7⟩ : Fl) hol _ _ rfl rfl rfl (by first | rfl | go_simp | simp [Act.eval, World.setCell]) ?_; intro g9 v9 w9 hN9 hg9 hB9)
            have HR9 := Lib.hid (HGA.out _ _ _ hN9 hg9 hB9)
            clear y0 y1 y2 yf0 yf1 yf2 hN9 hg9 hB9 HGA HG H8 x0 x1 x2 xf0 xf1 xf2 hol
            go_wp2
            go_roundw
            case rel => exact ⟨k + 1, _, by omega, by go_num, HO9.out, HR9.out.mono (by omega)⟩
            case measure => simp [intOf]; omega
          · have hz4' : (p4 == 0) = false := by simpa using hz4
            clear hz4
            obtain ⟨g, hG, hA⟩ := H7.out.gat
            have HGA := Lib.hid hA
            have HG := Lib.hid hG
            obtain ⟨x0, x1, x2, xf0, xf1, xf2⟩ := H7.out.blk.cells
            have hol : out.length ≤ 100000 := by have := HO.out.1; omega
            have HO9 : Hid (k + 1 = (out ++ [(⟨p1 - 1, p2 - 1, p3 * 7⟩ : Fl)]).length ∧ Small (out ++ [(⟨p1 - 1, p2 - 1, p3 * 7⟩ : Fl)])) := ⟨by rw [List.length_append, ← HO.out.1]; rfl, small_snoc HO.out.2 ⟨by show 0 ≤ p3 * 7; omega, by show p3 * 7 ≤ 28; omega⟩⟩
            clear hG hA
            go_wp2_with (at_builtin; refine Fc.wpList_gApp g _ _ out HG.out (⟨p1 - 1, p2 - 1, p3 * 7⟩ : Fl) hol _ _ rfl rfl rfl (by first | rfl | go_simp | simp [Act.eval, World.setCell]) ?_; intro g9 v9 w9 hN9 hg9 hB9)
            have HR9 := Lib.hid (HGA.out _ _ _ hN9 hg9 hB9)
            clear hN9 hg9 hB9 HGA HG H7 x0 x1 x2 xf0 xf1 xf2 hol
            go_wp2
            go_roundw
            case rel => exact ⟨k + 1, _, by omega, by go_num, HO9.out, HR9.out.mono (by omega)⟩
            case measure => simp [intOf]; omega
        · obtain rfl : k = 16 := by omega
          have HP : Hid (FlwPost rb (N + 100) w (.returned u3) wr) := hR.out.post ⟨by have := hO.out.1; omega, hO.out.2⟩ (by omega)
          have hki : decide (16 < 16) = false := by simp
          clear hR hO hlt
          go_wp2
          go_ret
          exact HP.out
    · have _h := trivial
      go_wp2
      go_loopw [3, 5, 6] (fun v i _ wr => ∃ (k : Nat) (out : List Fl), k ≤ 17 ∧ i = .int .i64 (k : Int) ∧ Hid (k = out.length ∧ Small out) ∧ Hid (FwR rb (N + 3 + 5 * k) w wr v out)) (fun _ i _ _ => 17 - (intOf i).toNat)
      case atStart => exact ⟨0, [], Nat.zero_le _, rfl, ⟨rfl, small_nil⟩, H3.out⟩
      case round =>
        obtain ⟨k, out, hk, rfl, hO, hR⟩ := hrel
        clear H3
        by_cases hlt : k < 17
        · have HO := Lib.hid hO.out
          have hki : decide ((k : Int) < 17) = true := by simp; omega
          go_wp2_with fail
          ((with_reducible refine (pick _ _ 5 _ hR.out.rd (by omega) (by omega) (by omega)).mono ?_); rintro e w4 ⟨p1, rfl, ha0, ha1, r4, g4, s4⟩)
          have H4 := Lib.hid (hR.out.grown g4 r4)
          clear r4 g4 s4 hR hO
          go_wp2_with fail
          ((with_reducible refine (pick _ _ 5 _ H4.out.rd (by omega) (by omega) (by omega)).mono ?_); rintro e w5 ⟨p2, rfl, hb0, hb1, r5, g5, s5⟩)
          have H5 := Lib.hid (H4.out.grown g5 r5)
          clear r5 g5 s5 H4
          go_wp2_with fail
          ((with_reducible refine (pick _ _ 5 _ H5.out.rd (by omega) (by omega) (by omega)).mono ?_); rintro e w6 ⟨p3, rfl, hc0, hc1, r6, g6, s6⟩)
          have H6 := Lib.hid ((H5.out.grown g6 r6).box ⟨p1 - 1, p2 - 1, p3 * 7⟩)
          clear r6 g6 s6 H5
          have ew1 : IntKind.i64.wrap (p1 - 1) = p1 - 1 := IntWalk.i64_in _ (by omega)
          have ew2 : IntKind.i64.wrap (p2 - 1) = p2 - 1 := IntWalk.i64_in _ (by omega)
          have ew3 : IntKind.i64.wrap (p3 * 7) = p3 * 7 := IntWalk.i64_in _ (by omega)
          go_wp2_with fail
          ((with_reducible refine (pick _ _ 40 _ H6.out.rd (by omega) (by omega) (by omega)).mono ?_); rintro e w7 ⟨p4, rfl, hd0, hd1, r7, g7, s7⟩)
          have H7 := Lib.hid (H6.out.grown g7 r7)
          clear r7 g7 s7 H6
          by_cases hz4 : p4 = 0
          · subst hz4
            go_wp2_with fail
            ((with_reducible refine (pick _ _ 2 _ H7.out.rd (by omega) (by omega) (by omega)).mono ?_); rintro e w8 ⟨p5, rfl, he0, he1, r8, g8, s8⟩)
            have ew4 : IntKind.i64.wrap (p5 * 10) = p5 * 10 := IntWalk.i64_in _ (by omega)
            have ew5 : IntKind.i64.wrap (p5 * 10 - 2) = p5 * 10 - 2 := IntWalk.i64_in _ (by omega)
            have H8a := Lib.hid (H7.out.grown g8 r8)
            have H8 := Lib.hid (H8a.out.set0 (p5 * 10 - 2))
            obtain ⟨y0, y1, y2, yf0, yf1, yf2⟩ := H8a.out.blk.cells
            clear r8 g8 s8 H7 H8a
            obtain ⟨g, hG, hA⟩ := H8.out.gat
            have HGA := Lib.hid hA
            have HG := Lib.hid hG
            obtain ⟨x0, x1, x2, xf0, xf1, xf2⟩ := H8.out.blk.cells
            have hol : out.length ≤ 100000 := by have := HO.out.1; omega
            have HO9 : Hid (k + 1 = (out ++ [(⟨p5 * 10 - 2, p2 - 1, p3 * 7⟩ : Fl)]).length ∧ Small (out ++ [(⟨p5 * 10 - 2, p2 - 1, p3 * 7⟩ : Fl)])) := ⟨by rw [List.length_append, ← HO.out.1]; rfl, small_snoc HO.out.2 ⟨by show 0 ≤ p3 * 7; omega, by show p3 * 7 ≤ 28; omega⟩⟩
            clear hG hA
            go_wp2_with (at_builtin; refine Fc.wpList_gApp g _ _ out HG.out (⟨p5 * 10 - 2, p2 - 1, p3 * 7⟩ : Fl) hol _ _ rfl rfl rfl (by first | rfl | go_simp | simp [Act.eval, World.setCell]) ?_; intro g9 v9 w9 hN9 hg9 hB9)
            have HR9 := Lib.hid (HGA.out _ _ _ hN9 hg9 hB9)
            clear y0 y1 y2 yf0 yf1 yf2 hN9 hg9 hB9 HGA HG H8 x0 x1 x2 xf0 xf1 xf2 hol
            go_wp2
            go_roundw
            case rel => exact ⟨k + 1, _, by omega, by go_num, HO9.out, HR9.out.mono (by omega)⟩
            case measure => simp [intOf]; omega
          · have hz4' : (p4 == 0) = false := by simpa using hz4
            clear hz4
            obtain ⟨g, hG, hA⟩ := H7.out.gat
            have HGA := Lib.hid hA
            have HG := Lib.hid hG
            obtain ⟨x0, x1, x2, xf0, xf1, xf2⟩ := H7.out.blk.cells
            have hol : out.length ≤ 100000 := by have := HO.out.1; omega
            have HO9 : Hid (k + 1 = (out ++ [(⟨p1 - 1, p2 - 1, p3 * 7⟩ : Fl)]).length ∧ Small (out ++ [(⟨p1 - 1, p2 - 1, p3 * 7⟩ : Fl)])) := ⟨by rw [List.length_append, ← HO.out.1]; rfl, small_snoc HO.out.2 ⟨by show 0 ≤ p3 * 7; omega, by show p3 * 7 ≤ 28; omega⟩⟩
            clear hG hA
            go_wp2_with (at_builtin; refine Fc.wpList_gApp g _ _ out HG.out (⟨p1 - 1, p2 - 1, p3 * 7⟩ : Fl) hol _ _ rfl rfl rfl (by first | rfl | go_simp | simp [Act.eval, World.setCell]) ?_; intro g9 v9 w9 hN9 hg9 hB9)
            have HR9 := Lib.hid (HGA.out _ _ _ hN9 hg9 hB9)
            clear hN9 hg9 hB9 HGA HG H7 x0 x1 x2 xf0 xf1 xf2 hol
            go_wp2
            go_roundw
            case rel => exact ⟨k + 1, _, by omega, by go_num, HO9.out, HR9.out.mono (by omega)⟩
            case measure => simp [intOf]; omega
        · obtain rfl : k = 17 := by omega
          have HP : Hid (FlwPost rb (N + 100) w (.returned u3) wr) := hR.out.post ⟨by have := hO.out.1; omega, hO.out.2⟩ (by omega)
          have hki : decide (17 < 17) = false := by simp
          clear hR hO hlt
          go_wp2
          go_ret
          exact HP.out
  · have hz' : (v2 == 0) = false := by simpa using hz
    obtain ⟨q, rfl⟩ := Int.eq_ofNat_of_zero_le hn0
    have H3 : Hid (FwR rb (N + 3 + 5 * 0) w w2 _ []) := H2.out.mono (by omega)
    clear hz H2
    go_wp2
    go_loopw [3, 5, 6] (fun v i _ wr => ∃ (k : Nat) (out : List Fl), k ≤ q ∧ i = .int .i64 (k : Int) ∧ Hid (k = out.length ∧ Small out) ∧ Hid (FwR rb (N + 3 + 5 * k) w wr v out)) (fun _ i _ _ => q - (intOf i).toNat)
    case atStart => exact ⟨0, [], Nat.zero_le _, rfl, ⟨rfl, small_nil⟩, H3.out⟩
    case round =>
      obtain ⟨k, out, hk, rfl, hO, hR⟩ := hrel
      clear H3
      by_cases hlt : k < q
      · have HO := Lib.hid hO.out
        have hki : decide ((k : Int) < (q : Int)) = true := by simp; omega
        go_wp2_with fail
        ((with_reducible refine (pick _ _ 5 _ hR.out.rd (by omega) (by omega) (by omega)).mono ?_); rintro e w4 ⟨p1, rfl, ha0, ha1, r4, g4, s4⟩)
        have H4 := Lib.hid (hR.out.grown g4 r4)
        clear r4 g4 s4 hR hO
        go_wp2_with fail
        ((with_reducible refine (pick _ _ 5 _ H4.out.rd (by omega) (by omega) (by omega)).mono ?_); rintro e w5 ⟨p2, rfl, hb0, hb1, r5, g5, s5⟩)
        have H5 := Lib.hid (H4.out.grown g5 r5)
        clear r5 g5 s5 H4
        go_wp2_with fail
        ((with_reducible refine (pick _ _ 5 _ H5.out.rd (by omega) (by omega) (by omega)).mono ?_); rintro e w6 ⟨p3, rfl, hc0, hc1, r6, g6, s6⟩)
        have H6 := Lib.hid ((H5.out.grown g6 r6).box ⟨p1 - 1, p2 - 1, p3 * 7⟩)
        clear r6 g6 s6 H5
        have ew1 : IntKind.i64.wrap (p1 - 1) = p1 - 1 := IntWalk.i64_in _ (by omega)
        have ew2 : IntKind.i64.wrap (p2 - 1) = p2 - 1 := IntWalk.i64_in _ (by omega)
        have ew3 : IntKind.i64.wrap (p3 * 7) = p3 * 7 := IntWalk.i64_in _ (by omega)
        go_wp2_with fail
        ((with_reducible refine (pick _ _ 40 _ H6.out.rd (by omega) (by omega) (by omega)).mono ?_); rintro e w7 ⟨p4, rfl, hd0, hd1, r7, g7, s7⟩)
        have H7 := Lib.hid (H6.out.grown g7 r7)
        clear r7 g7 s7 H6
        by_cases hz4 : p4 = 0
        · subst hz4
          go_wp2_with fail
          ((with_reducible refine (pick _ _ 2 _ H7.out.rd (by omega) (by omega) (by omega)).mono ?_); rintro e w8 ⟨p5, rfl, he0, he1, r8, g8, s8⟩)
          have ew4 : IntKind.i64.wrap (p5 * 10) = p5 * 10 := IntWalk.i64_in _ (by omega)
          have ew5 : IntKind.i64.wrap (p5 * 10 - 2) = p5 * 10 - 2 := IntWalk.i64_in _ (by omega)
          have H8a := Lib.hid (H7.out.grown g8 r8)
          have H8 := Lib.hid (H8a.out.set0 (p5 * 10 - 2))
          obtain ⟨y0, y1, y2, yf0, yf1, yf2⟩ := H8a.out.blk.cells
          clear r8 g8 s8 H7 H8a
          obtain ⟨g, hG, hA⟩ := H8.out.gat
          have HGA := Lib.hid hA
          have HG := Lib.hid hG
          obtain ⟨x0, x1, x2, xf0, xf1, xf2⟩ := H8.out.blk.cells
          have hol : out.length ≤ 100000 := by have := HO.out.1; omega
          have HO9 : Hid (k + 1 = (out ++ [(⟨p5 * 10 - 2, p2 - 1, p3 * 7⟩ : Fl)]).length ∧ Small (out ++ [(⟨p5 * 10 - 2, p2 - 1, p3 * 7⟩ : Fl)])) := ⟨by rw [List.length_append, ← HO.out.1]; rfl, small_snoc HO.out.2 ⟨by show 0 ≤ p3 * 7; omega, by show p3 * 7 ≤ 28; omega⟩⟩
          clear hG hA
          go_wp2_with (at_builtin; refine Fc.wpList_gApp g _ _ out HG.out (⟨p5 * 10 - 2, p2 - 1, p3 * 7⟩ : Fl) hol _ _ rfl rfl rfl (by first | rfl | go_simp | simp [Act.eval, World.setCell]) ?_; intro g9 v9 w9 hN9 hg9 hB9)
          have HR9 := Lib.hid (HGA.out _ _ _ hN9 hg9 hB9)
          clear y0 y1 y2 yf0 yf1 yf2 hN9 hg9 hB9 HGA HG H8 x0 x1 x2 xf0 xf1 xf2 hol
          go_wp2
          go_roundw
          case rel => exact ⟨k + 1, _, by omega, by go_num, HO9.out, HR9.out.mono (by omega)⟩
          case measure => simp [intOf]; omega
        · have hz4' : (p4 == 0) = false := by simpa using hz4
          clear hz4
          obtain ⟨g, hG, hA⟩ := H7.out.gat
          have HGA := Lib.hid hA
          have HG := Lib.hid hG
          obtain ⟨x0, x1, x2, xf0, xf1, xf2⟩ := H7.out.blk.cells
          have hol : out.length ≤ 100000 := by have := HO.out.1; omega
          have HO9 : Hid (k + 1 = (out ++ [(⟨p1 - 1, p2 - 1, p3 * 7⟩ : Fl)]).length ∧ Small (out ++ [(⟨p1 - 1, p2 - 1, p3 * 7⟩ : Fl)])) := ⟨by rw [List.length_append, ← HO.out.1]; rfl, small_snoc HO.out.2 ⟨by show 0 ≤ p3 * 7; omega, by show p3 * 7 ≤ 28; omega⟩⟩
          clear hG hA
          go_wp2_with (at_builtin; refine Fc.wpList_gApp g _ _ out HG.out (⟨p1 - 1, p2 - 1, p3 * 7⟩ : Fl) hol _ _ rfl rfl rfl (by first | rfl | go_simp | simp [Act.eval, World.setCell]) ?_; intro g9 v9 w9 hN9 hg9 hB9)
          have HR9 := Lib.hid (HGA.out _ _ _ hN9 hg9 hB9)
          clear hN9 hg9 hB9 HGA HG H7 x0 x1 x2 xf0 xf1 xf2 hol
          go_wp2
          go_roundw
          case rel => exact ⟨k + 1, _, by omega, by go_num, HO9.out, HR9.out.mono (by omega)⟩
          case measure => simp [intOf]; omega
      · obtain rfl : q = k := by omega
        have HP : Hid (FlwPost rb (N + 100) w (.returned u3) wr) := hR.out.post ⟨by have := hO.out.1; omega, hO.out.2⟩ (by omega)
        have hki : decide ((q : Int) < (q : Int)) = false := by simp
        clear hR hO hlt
        go_wp2
        go_ret
        exact HP.out
/-- Flows are drawn. -/
def FlwN (w : World) (e : Ending) (w' : World) : Prop := ∃ A c xs, e = .returned (.slice A xs.length c) ∧ (xs.length ≤ 17 ∧ Small xs) ∧ Fls w.heap.size w'.heap.size w' A xs.length c xs ∧ Below w.heap.size w w'
set_option maxRecDepth 20000 in
theorem DrawViewOf (A : Option Addr) (n c : Nat) (w : World) (h : CodeIs w A n c) : Calls Try.prog 11 #[.slice A n c] w (FlwN w) := by
  go_enter Try.func11, Try.ntmps11
  go_wp2_with fail
  ((with_reducible refine (l6Open A n c w h).mono ?_); rintro e w1 ⟨rfl, hr1, hb1, hs1⟩)
  have HB1 := Lib.hid hb1
  have HR1 := Lib.hid hr1
  clear hb1 hr1
  go_wp2_with fail
  ((with_reducible refine (l92Flows _ _ _ HR1.out (by omega)).mono ?_); rintro e w2 ⟨A2, c2, xs, rfl, hsm, o2, r2, g2⟩)
  have HP : Hid (FlwN w (.returned (.slice A2 xs.length c2)) w2) := ⟨A2, c2, xs, rfl, hsm, o2.row_.mono (by omega) (Nat.le_refl _), below_rd HB1.out (Nat.le_refl _) g2⟩
  clear hsm o2 r2 g2
  go_wp2
  go_ret
  exact HP.out
/-- Two lists of flows are drawn. -/
def TwoF (w : World) (e : Ending) (w' : World) : Prop := ∃ A c B d xs ys, e = .returned (.tuple #[.slice A xs.length c, .slice B ys.length d]) ∧ Fls w.heap.size w'.heap.size w' A xs.length c xs ∧ Fls w.heap.size w'.heap.size w' B ys.length d ys ∧ Below w.heap.size w w'
/-- While the second list is turned. -/
def DvR (N lo hi : Nat) (w wr : World) (A B : Option Addr) (n c d : Nat) (xs ys : List Fl) : Prop :=
  Reader wr w.heap.size N ∧ Below w.heap.size w wr ∧ Fls (w.heap.size + 1) lo wr A n c xs ∧ FlsO lo hi wr B n d ys ∧ w.heap.size < lo ∧ lo ≤ hi ∧ hi ≤ wr.heap.size
section
variable {N lo hi n c d : Nat} {w wr w2 : World} {A B : Option Addr} {xs ys : List Fl}
theorem DvR.rd (h : DvR N lo hi w wr A B n c d xs ys) : Reader wr w.heap.size N := h.1
theorem DvR.snd (h : DvR N lo hi w wr A B n c d xs ys) : FlsO lo hi wr B n d ys := h.2.2.2.1
theorem DvR.grown {M : Nat} (h : DvR N lo hi w wr A B n c d xs ys) (hg : wr.grownBy w2 (some w.heap.size)) (hr : Reader w2 w.heap.size M) : DvR M lo hi w w2 A B n c d xs ys := by
  obtain ⟨h1, h2, h3, h4, h5, h6, h7⟩ := h
  exact ⟨hr, below_rd h2 (Nat.le_refl _) hg, h3.grown hg (fun k e => by cases e; left; omega), h4.grown hg (fun k e => by cases e; left; exact h5), h5, h6, Nat.le_trans h7 hg.size⟩
theorem DvR.turn {b : Nat} (h : DvR N lo hi w wr A B n c d xs ys) (hb : lo ≤ b) (hbl : ∀ q, q ≠ b → w2.heap[q]? = wr.heap[q]?) (hos : w2.os = wr.os ∧ w2.tape = wr.tape ∧ w2.output = wr.output ∧ w2.heap.size = wr.heap.size) {zs : List Fl} (ho : FlsO lo hi w2 B n d zs) : DvR N lo hi w w2 A B n c d xs zs := by
  obtain ⟨h1, h2, h3, h4, h5, h6, h7⟩ := h
  obtain ⟨o1, o2, o3, o4⟩ := hos
  refine ⟨h1.keep fun i hi => hbl i (by omega), ⟨o1.trans h2.os, o2.trans h2.tape, o3.trans h2.output, by rw [o4]; exact h2.size, fun k hk => (hbl k (by omega)).trans (h2.block k hk)⟩, h3.keep (Nat.le_of_eq o4.symm) (fun q q1 q2 _ => hbl q (by omega)), ho, h5, h6, by rw [o4]; exact h7⟩
theorem DvR.set2 {k b off : Nat} (h : DvR N lo hi w wr A (some ⟨b, off, none⟩) n c d xs ys) (hk : k < n) (v : Int) : DvR N lo hi w (wr.setCell ⟨b, off + k * 3 + 2, none⟩ (.int .i64 v)) A (some ⟨b, off, none⟩) n c d xs (ys.set k ⟨(flAt ys k).fr, (flAt ys k).to, v⟩) := by
  obtain ⟨b', off', e, h1, h2, h3⟩ := h.snd.1.2.2.2 (by omega)
  simp only [Option.some.injEq, Addr.mk.injEq, and_true] at e
  obtain ⟨rfl, rfl⟩ := e
  have hs := h.snd.set1 hk ⟨(flAt ys k).fr, (flAt ys k).to, v⟩ (show 2 < 3 by omega) (v := .int .i64 v) rfl
  rw [← Nat.add_assoc] at hs
  exact h.turn h1 (fun q hq => Below.heap_setCell _ _ _ _ hq) ⟨rfl, rfl, rfl, by simp [World.setCell]⟩ hs
theorem DvR.put {k b off : Nat} (h : DvR N lo hi w wr A (some ⟨b, off, none⟩) n c d xs ys) (hk : k < n) (f0 f1 f2 : Int) : DvR N lo hi w (((wr.setCell ⟨b, off + k * 3, none⟩ (.int .i64 f0)).setCell ⟨b, off + k * 3 + 1, none⟩ (.int .i64 f1)).setCell ⟨b, off + k * 3 + 2, none⟩ (.int .i64 f2)) A (some ⟨b, off, none⟩) n c d xs (ys.set k ⟨f0, f1, f2⟩) := by
  obtain ⟨b', off', e, h1, h2, h3⟩ := h.snd.1.2.2.2 (by omega)
  simp only [Option.some.injEq, Addr.mk.injEq, and_true] at e
  obtain ⟨rfl, rfl⟩ := e
  exact h.turn h1 (fun q hq => ((Below.heap_setCell _ _ _ _ hq).trans (Below.heap_setCell _ _ _ _ hq)).trans (Below.heap_setCell _ _ _ _ hq)) ⟨rfl, rfl, rfl, by simp [World.setCell]⟩ (h.snd.put hk ⟨f0, f1, f2⟩)
theorem DvR.post (h : DvR N lo hi w wr A B n c d xs ys) (hx : xs.length = n) : TwoF w (.returned (.tuple #[.slice A n c, .slice B n d])) wr := by
  have hy := h.snd.row_.len_
  obtain ⟨h1, h2, h3, h4, h5, h6, h7⟩ := h
  subst hx
  refine ⟨A, c, B, d, xs, ys, by rw [hy], h3.mono (by omega) (by omega), ?_, h2⟩
  rw [hy]
  exact h4.row_.mono (by omega) h7
end
set_option maxRecDepth 20000 in
set_option maxHeartbeats 4000000 in
theorem DrawViewSame (A : Option Addr) (n c : Nat) (w : World) (h : CodeIs w A n c) : Calls Try.prog 16 #[.slice A n c] w (TwoF w) := by
  go_enter Try.func16, Try.ntmps16
  go_wp2_with fail
  ((with_reducible refine (l6Open A n c w h).mono ?_); rintro e w1 ⟨rfl, hr1, hb1, hs1⟩)
  have HB1 := Lib.hid hb1
  have HR1 := Lib.hid hr1
  clear hb1 hr1
  go_wp2_with fail
  ((with_reducible refine (l92Flows _ _ _ HR1.out (by omega)).mono ?_); rintro e w2 ⟨A2, c2, xs, rfl, hsm, o2, r2, g2⟩)
  have hlw : w.heap.size < w2.heap.size := r2.lt
  have HB2 := Lib.hid (below_rd HB1.out (Nat.le_refl _) g2)
  have X2 : Hid (Fls (w.heap.size + 1) w2.heap.size w2 A2 xs.length c2 xs) := by rw [hs1] at o2; exact o2.row_
  have R2 := Lib.hid r2
  have HAC := Lib.hid (Fc.acc_new w2)
  have X2a := Lib.hid (X2.out.below ((Below.refl w2.heap.size w2).alloc (Nat.le_refl _) (.cells #[] 28)) (Nat.le_refl _))
  have hx17 := hsm.1
  clear hsm o2 r2 g2 hs1 HB1 HR1
  go_wp2_with (at_builtin; refine Fc.wpList_cAppL w2 _ _ [] HAC.out _ _ _ _ _ xs X2a.out (by simp only [List.length_nil]; omega) _ _ rfl rfl rfl rfl ?_; intro v3 w3 hN hB; rw [List.nil_append] at hN)
  obtain ⟨B, d, rfl, ho, hb⟩ := hN.own
  have H0 : Hid (DvR (0 + 100) w2.heap.size w3.heap.size w w3 A2 B xs.length c2 d xs xs) :=
    ⟨R2.out.below hb hlw, HB2.out.trans (hb.mono HB2.out.size), X2.out.below hb (Nat.le_refl _), ho, hlw, hb.size, Nat.le_refl _⟩
  have HXL : Hid (∃ m, m = xs.length) := ⟨_, rfl⟩
  clear hN hB ho hb HAC X2a X2 R2 HB2
  obtain ⟨m, hm⟩ := HXL.out
  have HM := Lib.hid hm
  rw [← hm] at H0 hx17 ⊢
  clear hm
  have hcd := H0.out.snd.row_.cap_
  have hcm := H0.out.snd.row_.max_
  go_wp2
  go_loopw [7] (fun i wr => ∃ (k : Nat) (ys : List Fl), k ≤ m ∧ i = .int .i64 (k : Int) ∧ Hid (DvR (0 + 100) w2.heap.size w3.heap.size w wr A2 B m c2 d xs ys)) (fun i _ => m - (intOf i).toNat)
  case atStart => exact ⟨0, _, Nat.zero_le _, rfl, H0.out⟩
  case round =>
    obtain ⟨k, ys, hk, rfl, hR⟩ := hrel
    clear H0
    by_cases hlt : k < m
    · obtain ⟨b, off, rfl, _, _, _, e0, e1, e2⟩ := hR.out.snd.row_.at_ hlt
      obtain ⟨_, _, f2⟩ := hR.out.snd.free hlt
      have HS : Hid (∀ v : Int, DvR (0 + 100) w2.heap.size w3.heap.size w (wr.setCell ⟨b, off + k * 3 + 2, none⟩ (.int .i64 v)) A2 (some ⟨b, off, none⟩) m c2 d xs (ys.set k ⟨(flAt ys k).fr, (flAt ys k).to, v⟩)) := fun v => hR.out.set2 hlt v
      clear hR e0 e1
      generalize (flAt ys k).nm = y at *
      go_wp2
      go_roundw
      case rel => exact ⟨k + 1, _, by omega, by go_num, HS.out _⟩
      case measure => simp [intOf]; omega
    · obtain rfl : k = m := by omega
      clear hlt
      by_cases h0 : 0 < k
      · have _h := trivial
        go_wp2_with fail
        ((with_reducible refine (pick _ _ 3 _ hR.out.rd (by omega) (by omega) (by omega)).mono ?_); rintro e w4 ⟨v4, rfl, ha0, ha1, r4, g4, s4⟩)
        have H4 := Lib.hid (hR.out.grown g4 r4)
        clear r4 g4 s4 hR
        by_cases hz : v4 = 0
        · subst hz
          go_wp2_with fail
          ((with_reducible refine (pick _ _ (k : Int) _ H4.out.rd (by omega) (by omega) (by omega)).mono ?_); rintro e w5 ⟨v5, rfl, hb0, hb1, r5, g5, s5⟩)
          have H5 := Lib.hid (H4.out.grown g5 r5)
          clear r5 g5 s5 H4
          obtain ⟨j, rfl⟩ := Int.eq_ofNat_of_zero_le hb0
          go_wp2_with fail
          ((with_reducible refine (pick _ _ 4 _ H5.out.rd (by omega) (by omega) (by omega)).mono ?_); rintro e w6 ⟨v6, rfl, hc0, hc1, r6, g6, s6⟩)
          have H6 := Lib.hid (H5.out.grown g6 r6)
          clear r6 g6 s6 H5
          go_wp2_with fail
          ((with_reducible refine (pick _ _ 4 _ H6.out.rd (by omega) (by omega) (by omega)).mono ?_); rintro e w7 ⟨v7, rfl, hd0, hd1, r7, g7, s7⟩)
          have H7 := Lib.hid (H6.out.grown g7 r7)
          clear r7 g7 s7 H6
          go_wp2_with fail
          ((with_reducible refine (pick _ _ 100 _ H7.out.rd (by omega) (by omega) (by omega)).mono ?_); rintro e w8 ⟨v8, rfl, he0, he1, r8, g8, s8⟩)
          have H8 := Lib.hid (H7.out.grown g8 r8)
          clear r8 g8 s8 H7
          have hj : j < k := by omega
          obtain ⟨b, off, rfl, _, _, _, e0, e1, e2⟩ := H8.out.snd.row_.at_ hj
          obtain ⟨f0, f1, f2⟩ := H8.out.snd.free hj
          have HP := Lib.hid ((H8.out.put hj v6 v7 v8).post HM.out.symm)
          clear H8
          go_wp2
          go_ret2
          exact HP.out
        · have hz' : (v4 == 0) = false := by simpa using hz
          have HP := Lib.hid (H4.out.post HM.out.symm)
          clear hz H4
          go_wp2
          go_ret2
          exact HP.out
      · obtain rfl : k = 0 := by omega
        have HP := Lib.hid (hR.out.post HM.out.symm)
        clear hR h0
        go_wp2
        go_ret2
        exact HP.out
end Rd
end Go.Proofs.Ytcbhjnjallnidaa
