/-
  Contracts of the model's chapter 12: paths, one count, LoopAdd.
-/
import Derived.Test.YtbhafchdcofceaaSp7b
import Derived.Test.YtbhafchdcofceaaLr
import Derived.Test.YtbhafchdcofceaaLg
import Derived.Deep.Cut
namespace Go.Proofs.Ytbhafchdcofceaa
open Go.RowKit
namespace Sp7
open Il Sl Lc Sp2 Nm

set_option maxRecDepth 20000 in
theorem l12Path (lo hi : Nat) (A : Option Addr) (n c : Nat) (p : List Int) (w : World) (hx : Ints lo hi w A n c p) :
    Calls Try.prog 34 #[.slice A n c] w fun e w' => e = .returned (.bool (lpOk p)) ∧ ∃ d, w' = w.drewN d := by
  have hc1 := hx.2.2.1
  have hc2 := hx.2.1
  have HL := Lib.hid hx.1
  unfold maxLen at hc1
  have HX := Lib.hid hx
  clear hx
  go_enter Try.func34, Try.ntmps34
  go_wp2
  go_loopw [3] (fun i wr => ∃ k : Nat, 1 ≤ k ∧ (k ≤ n ∨ k = 1) ∧ i = .int .i64 k ∧ Hid (∀ i, i + 1 < k → p.getD i 0 ≠ p.getD (i + 1) 0) ∧ Hid (∃ d, wr = w.drewN d)) (fun i _ => n + 1 - (intOf i).toNat)
  case atStart => exact ⟨1, Nat.le_refl _, .inr rfl, rfl, fun i hi => absurd hi (by omega), 0, rfl⟩
  case round =>
    obtain ⟨k, hk1, hk, rfl, hT, hD⟩ := hrel
    obtain ⟨d, rfl⟩ := hD.out
    clear hD
    by_cases hlt : k < n
    · obtain ⟨j, hj⟩ : ∃ j, k = j + 1 := ⟨k - 1, by omega⟩
      have e2 : IntKind.i64.wrap ((k : Int) - 1) = (j : Int) := by rw [IntWalk.i64_in _ (by omega)]; omega
      obtain ⟨b, off, rfl, _, _, cy⟩ := HX.out.at_ (k := j) (by omega)
      obtain ⟨b', off', eb, _, _, cx⟩ := HX.out.at_ (k := k) hlt
      simp only [Option.some.injEq, Addr.mk.injEq, and_true] at eb
      obtain ⟨rfl, rfl⟩ := eb
      have HNO : Hid (p.getD j 0 = p.getD k 0 → lpOk p = false) := fun h => by
        unfold lpOk
        rw [adj_no (i := j) (by have := HL.out; omega) (by rw [← hj]; exact h)]; rfl
      have HYE : Hid (p.getD j 0 ≠ p.getD k 0 → ∀ i, i + 1 < k + 1 → p.getD i 0 ≠ p.getD (i + 1) 0) := fun h i hi => by
        rcases Nat.lt_or_ge (i + 1) k with q | q
        · exact hT.out i q
        · obtain rfl : i = j := by omega
          rw [← hj]; exact h
      clear hT
      generalize p.getD j 0 = y at *
      generalize p.getD k 0 = x at *
      have hjn : j < n := by omega
      clear hj
      by_cases hxy : y = x
      · have HV := Lib.hid (HNO.out hxy)
        subst hxy
        clear HNO HYE
        go_wp2
        go_quiet (fail)
        go_wp2
        go_ret
        rw [HV.out]
        exact ⟨rfl, d + nq, World.drewN_drewN w d nq⟩
      · have HN := Lib.hid (HYE.out hxy)
        have d0 : (y == x) = false := by simpa using hxy
        clear HNO HYE hxy
        go_wp2
        go_quiet (fail)
        go_wp2
        go_roundw
        case rel => exact ⟨k + 1, by omega, .inl (by omega), by go_num, HN.out, d + nq, rfl⟩
        case measure => simp [intOf]; omega
    · have HA : Hid (lpOk p = (namesOk p && decide (2 ≤ n ∧ n ≤ 4))) := by
        show lpOk p = _
        unfold lpOk
        rw [adj_iff.2 (fun i hi => hT.out i (by have := HL.out; omega)), HL.out]; rfl
      clear hT
      have hlt' : decide (k < n) = false := by simp; omega
      clear hlt
      cases h1 : namesOk p
      · have HV : Hid (lpOk p = false) := by show lpOk p = _; rw [HA.out, h1]; rfl
        go_wp2_with fail
        ((with_reducible refine (l5Names _ _ _ _ _ p _ (HX.out.drewN d)).mono ?_); rintro e w1 ⟨rfl, rfl⟩)
        rw [h1]
        clear h1 HA
        go_wp2
        go_ret
        rw [HV.out]
        exact ⟨rfl, d, rfl⟩
      · have HV : Hid (lpOk p = (decide ((2 : Int) ≤ (n : Int)) && decide ((n : Int) ≤ 4))) := by
          show lpOk p = _
          rw [HA.out, h1]
          simp only [Bool.true_and]
          apply Bool.eq_iff_iff.2
          simp only [Bool.and_eq_true, decide_eq_true_eq]
          omega
        go_wp2_with fail
        ((with_reducible refine (l5Names _ _ _ _ _ p _ (HX.out.drewN d)).mono ?_); rintro e w1 ⟨rfl, rfl⟩)
        rw [h1]
        clear h1 HA
        go_wp2_with fail
        ((with_reducible refine (l6In (n : Int) 2 4 _).mono ?_); rintro e w2 ⟨rfl, rfl⟩)
        go_wp2
        go_ret
        rw [HV.out]
        exact ⟨rfl, d, rfl⟩

/-- What the loops of l12Count hold. -/
def CoRel (lo hi : Nat) (w wr : World) (A : Option Addr) (n c : Nat) (xs : List Cnt) (x : Cnt) (v : Value) (ys : List Cnt) : Prop :=
  Cnts lo hi wr A n c xs ∧ Blk4 wr w.heap.size x ∧ (∃ g, w.heap.size < g ∧ Gat g wr v ys) ∧ Below w.heap.size w wr
section
variable {lo hi : Nat} {w wr w2 : World} {A : Option Addr} {n c : Nat} {xs ys : List Cnt} {x : Cnt} {v : Value}
theorem CoRel.c1 (h : CoRel lo hi w wr A n c xs x v ys) : Cnts lo hi wr A n c xs := h.1
theorem CoRel.below (h : CoRel lo hi w wr A n c xs x v ys) (hb : Below wr.heap.size wr w2) : CoRel lo hi w w2 A n c xs x v ys := by
  obtain ⟨h1, h2, ⟨g, h3, h4⟩, h5⟩ := h
  exact ⟨h1.below hb (Nat.le_refl _), h2.below hb, ⟨g, h3, h4.below hb (Nat.le_refl _)⟩, h5.trans (hb.mono h5.size)⟩
theorem CoRel.dr {d : Nat} (h : CoRel lo hi w wr A n c xs x v ys) : CoRel lo hi w (wr.drewN d) A n c xs x v ys := h.below ⟨rfl, rfl, rfl, Nat.le_refl _, fun _ _ => rfl⟩
theorem CoRel.app {g g' : Nat} {v' : Value} {z : Cnt} (h : CoRel lo hi w wr A n c xs x v ys) (hh : hi ≤ w.heap.size) (h3 : w.heap.size < g) (ha : Gat g' w2 v' (ys ++ [z])) (hg : g' = g ∨ wr.heap.size ≤ g') (hgr : wr.grownBy w2 (some g)) : CoRel lo hi w w2 A n c xs x v' (ys ++ [z]) := by
  obtain ⟨h1, h2, _, h5⟩ := h
  have hs := h5.size
  have hl := h2.lt
  exact ⟨h1.grown hgr (fun k hk => by cases hk; omega), h2.same (hgr.block _ hl (by simp; omega)), ⟨g', by omega, ha⟩, h5.grown hgr hs (fun k hk => by cases hk; omega)⟩
end
section
variable {lo hi : Nat} {w wr w2 : World} {A : Option Addr} {n c : Nat} {xs ys : List Cnt} {x : Cnt} {v : Value}
theorem CoRel.put (h : CoRel lo hi w wr A n c xs x v ys) (hh : hi ≤ w.heap.size) (y : Cnt) :
    CoRel lo hi w ((((wr.setCell ⟨w.heap.size, 0, none⟩ (.int .i64 y.fr)).setCell ⟨w.heap.size, 1, none⟩ (.int .i64 y.to_)).setCell ⟨w.heap.size, 2, none⟩ (.int .i64 y.se)).setCell ⟨w.heap.size, 3, none⟩ (.int .i64 y.ba)) A n c xs y v ys := by
  obtain ⟨h1, h2, ⟨g, h3, h4⟩, h5⟩ := h
  have hs : ((((wr.setCell ⟨w.heap.size, 0, none⟩ (.int .i64 y.fr)).setCell ⟨w.heap.size, 1, none⟩ (.int .i64 y.to_)).setCell ⟨w.heap.size, 2, none⟩ (.int .i64 y.se)).setCell ⟨w.heap.size, 3, none⟩ (.int .i64 y.ba)).heap.size = wr.heap.size := by simp [World.setCell]
  have ho : ∀ q, q ≠ w.heap.size → ((((wr.setCell ⟨w.heap.size, 0, none⟩ (.int .i64 y.fr)).setCell ⟨w.heap.size, 1, none⟩ (.int .i64 y.to_)).setCell ⟨w.heap.size, 2, none⟩ (.int .i64 y.se)).setCell ⟨w.heap.size, 3, none⟩ (.int .i64 y.ba)).heap[q]? = wr.heap[q]? := fun q hq => by
    rw [set_other hq, set_other hq, set_other hq, set_other hq]
  exact ⟨h1.keep (by omega) (fun q _ q2 _ => ho q (by omega)), h2.put y, ⟨g, h3, h4.block (ho g (by omega))⟩, (((h5.setCell (p := ⟨w.heap.size, 0, none⟩) (Nat.le_refl _) _).setCell (p := ⟨w.heap.size, 1, none⟩) (Nat.le_refl _) _).setCell (p := ⟨w.heap.size, 2, none⟩) (Nat.le_refl _) _).setCell (p := ⟨w.heap.size, 3, none⟩) (Nat.le_refl _) _⟩
theorem CoRel.set2 (h : CoRel lo hi w wr A n c xs x v ys) (hh : hi ≤ w.heap.size) (r : Int) : CoRel lo hi w (wr.setCell ⟨w.heap.size, 2, none⟩ (.int .i64 r)) A n c xs ⟨x.fr, x.to_, r, x.ba⟩ v ys := by
  obtain ⟨h1, h2, ⟨g, h3, h4⟩, h5⟩ := h
  exact ⟨h1.keep (by simp [World.setCell]) (fun q _ q2 _ => set_other (by omega)), h2.set2 r, ⟨g, h3, h4.block (set_other (by omega))⟩, h5.setCell (p := ⟨w.heap.size, 2, none⟩) (Nat.le_refl _) _⟩
theorem CoRel.set3 (h : CoRel lo hi w wr A n c xs x v ys) (hh : hi ≤ w.heap.size) (r : Int) : CoRel lo hi w (wr.setCell ⟨w.heap.size, 3, none⟩ (.int .i64 r)) A n c xs ⟨x.fr, x.to_, x.se, r⟩ v ys := by
  obtain ⟨h1, h2, ⟨g, h3, h4⟩, h5⟩ := h
  exact ⟨h1.keep (by simp [World.setCell]) (fun q _ q2 _ => set_other (by omega)), h2.set3 r, ⟨g, h3, h4.block (set_other (by omega))⟩, h5.setCell (p := ⟨w.heap.size, 3, none⟩) (Nat.le_refl _) _⟩
theorem CoRel.post (h : CoRel lo hi w wr A n c xs x v ys) : CntsPost ys w (.returned v) wr := by
  obtain ⟨_, _, ⟨g, h3, h4⟩, h5⟩ := h
  obtain ⟨A2, c2, rfl, ho⟩ := h4.own
  have := h4.lt
  exact ⟨A2, c2, rfl, ho.mono (by omega) (by omega), h5⟩
end
theorem l12LessK (x : Cnt) (f t : Int) (w : World) :
    Calls Try.prog 47 #[.agg #[.int .i64 x.fr, .int .i64 x.to_, .int .i64 x.se, .int .i64 x.ba], .agg #[.int .i64 f, .int .i64 t, .int .i64 0, .int .i64 0]] w (BoolB (less x (key f t)) w) := l12Less x (key f t) w
theorem l12LessB (c : Cnt) (f t s r : Int) (w : World) :
    Calls Try.prog 47 #[.agg #[.int .i64 f, .int .i64 t, .int .i64 s, .int .i64 r], .agg #[.int .i64 c.fr, .int .i64 c.to_, .int .i64 c.se, .int .i64 c.ba]] w (BoolB (less (key f t) c) w) := l12Less ⟨f, t, s, r⟩ c w
set_option maxRecDepth 20000 in
set_option maxHeartbeats 1000000 in
theorem l12Count (lo hi : Nat) (A : Option Addr) (n c : Nat) (xs : List Cnt) (f t : Int) (bk : Bool) (w : World) (hx : Cnts lo hi w A n c xs) (hh : hi ≤ w.heap.size) (hn : n ≤ 10000) (hsm : Small 1000 xs) :
    Calls Try.prog 35 #[.slice A n c, .int .i64 f, .int .i64 t, .bool bk] w (CntsPost (cntOne xs f t bk) w) := by
  have hc1 := hx.max_
  have hc2 := hx.cap_
  have HL := Lib.hid hx.len_
  have HH := Lib.hid hh
  have HS := Lib.hid hsm
  have b0 : Below w.heap.size w (w.alloc (.cells #[.int .i64 f, .int .i64 t, .int .i64 0, .int .i64 0] 37)) := (Below.refl _ _).alloc (Nat.le_refl _) _
  have hs1 : (w.alloc (.cells #[.int .i64 f, .int .i64 t, .int .i64 0, .int .i64 0] 37)).heap.size = w.heap.size + 1 := by simp
  have b1 : Below (w.alloc (.cells #[.int .i64 f, .int .i64 t, .int .i64 0, .int .i64 0] 37)).heap.size (w.alloc (.cells #[.int .i64 f, .int .i64 t, .int .i64 0, .int .i64 0] 37)) ((w.alloc (.cells #[.int .i64 f, .int .i64 t, .int .i64 0, .int .i64 0] 37)).alloc (.cells #[] 37)) := (Below.refl _ _).alloc (Nat.le_refl _) _
  have hg0 := gat_new (w.alloc (.cells #[.int .i64 f, .int .i64 t, .int .i64 0, .int .i64 0] 37))
  rw [hs1] at hg0
  have hk0 : Blk4 (w.alloc (.cells #[.int .i64 f, .int .i64 t, .int .i64 0, .int .i64 0] 37)) w.heap.size (key f t) := heap_alloc_new _ _
  have HX0 : Hid (CoRel lo hi w ((w.alloc (.cells #[.int .i64 f, .int .i64 t, .int .i64 0, .int .i64 0] 37)).alloc (.cells #[] 37)) A n c xs (key f t) (.slice (some ⟨w.heap.size + 1, 0, none⟩) 0 0) []) :=
    ⟨(hx.below b0 (Nat.le_refl _)).below b1 (Nat.le_refl _), hk0.below b1, ⟨_, by omega, hg0⟩, b0.trans (b1.mono (by omega))⟩
  clear hx hh hsm b0 hs1 b1 hg0 hk0
  go_enter Try.func35, Try.ntmps35
  go_wp2
  go_loopw [10, 11] (fun v i wr => ∃ k : Nat, k ≤ n ∧ i = .int .i64 k ∧ Hid (CoRel lo hi w wr A n c xs (key f t) v ((xs.take k).filter (fun c => less c (key f t))))) (fun _ i _ => n - (intOf i).toNat)
  case atStart => exact ⟨0, Nat.zero_le _, rfl, HX0.out⟩
  case round =>
    obtain ⟨k, hk, rfl, hR⟩ := hrel
    clear HX0
    by_cases hlt : k < n
    · have HST := Lib.hid (filter_take (xs := xs) (k := k) (by rw [HL.out]; exact hlt) (fun c => less c (key f t)))
      have HFL := Lib.hid (filter_len (xs := xs) (k := k) (by rw [HL.out]; exact hk) (fun c => less c (key f t)))
      generalize (xs.take k).filter (fun c => less c (key f t)) = ys at *
      obtain ⟨b, off, rfl, _, _, hbz, c0, c1, c2, c3⟩ := hR.out.c1.at_ hlt
      obtain ⟨z0, z1, z2, z3, _⟩ := hR.out.2.1.cells
      generalize cntAt xs k = x at *
      unfold key at z0 z1 z2 z3
      simp only at z0 z1 z2 z3
      go_wp2
      go_still_tail 5, (by kernel_rfl)
      change wpList _ _ _ _ _ wr.drew
      cases hle : less x (key f t)
      · rw [hle] at HST
        simp only [cond_false, List.append_nil] at HST
        go_wp2_with fail
        ((with_reducible refine (l12LessK x f t _).mono ?_); rintro e w1 ⟨rfl, hb⟩)
        rw [hle]
        have HR := Lib.hid (hR.out.below (below_drew hb))
        clear hb hR hle c0 c1 c2 c3 z0 z1 z2 z3 hbz
        go_wp2
        go_roundw
        case rel => exact ⟨k + 1, by omega, by go_num, by show CoRel _ _ _ _ _ _ _ _ _ _ _; rw [HST.out]; exact HR.out⟩
        case measure => simp [intOf]; omega
      · rw [hle] at HST
        simp only [cond_true] at HST
        go_wp2_with fail
        ((with_reducible refine (l12LessK x f t _).mono ?_); rintro e w1 ⟨rfl, hb⟩)
        rw [hle]
        have HR := Lib.hid (hR.out.below (below_drew hb))
        have hbd := below_drew hb
        have d0 := (hbd.cell (p := ⟨b, off + k * 4, none⟩) hbz).trans c0
        have d1 := (hbd.cell (p := ⟨b, off + k * 4 + 1, none⟩) hbz).trans c1
        have d2 := (hbd.cell (p := ⟨b, off + k * 4 + 2, none⟩) hbz).trans c2
        have d3 := (hbd.cell (p := ⟨b, off + k * 4 + 3, none⟩) hbz).trans c3
        obtain ⟨g, hg1, hg2⟩ := HR.out.2.2.1
        clear hb hbd hR hle c0 c1 c2 c3 z0 z1 z2 z3 hbz
        go_wp2_with (at_builtin; refine wpList_gApp g _ _ _ hg2 x (by have := HFL.out; omega) _ _ rfl rfl rfl rfl ?_; intro g' v' w2 ha hg hgr)
        have HR2 := Lib.hid (CoRel.app HR.out HH.out hg1 ha hg hgr)
        clear ha hg hgr HR hg2 d0 d1 d2 d3
        go_wp2
        go_roundw
        case rel => exact ⟨k + 1, by omega, by go_num, by show CoRel _ _ _ _ _ _ _ _ _ _ _; rw [HST.out]; exact HR2.out⟩
        case measure => simp [intOf]; omega
    · obtain rfl : k = n := by omega
      have HF : Hid ((xs.take k).filter (fun c => less c (key f t)) = xs.filter (fun c => less c (key f t))) := by show (xs.take k).filter _ = _; rw [List.take_of_length_le (by rw [HL.out]; exact Nat.le_refl _)]
      rw [HF.out] at hR
      have HFL2 : Hid ((xs.filter (fun c => less c (key f t))).length ≤ k) := by show _ ≤ _; have := List.length_filter_le (fun c => less c (key f t)) xs; rw [HL.out] at this; exact this
      have HEX : Hid (cntOne xs f t bk = xs.filter (fun c => less c (key f t)) ++ [bump (lastL xs f t) bk] ++ xs.filter (fun c => less (key f t) c)) := rfl
      clear hlt
      generalize xs.filter (fun c => less c (key f t)) = ys at *
      go_wp2
      go_loopw [12] (fun i wr => ∃ k2 : Nat, k2 ≤ k ∧ i = .int .i64 k2 ∧ Hid (CoRel lo hi w wr A k c xs (lastL (xs.take k2) f t) u10 ys)) (fun i _ => k - (intOf i).toNat)
      case atStart => exact ⟨0, Nat.zero_le _, rfl, hR.out⟩
      case round =>
        clear hR
        obtain ⟨k2, hk2, rfl, hR⟩ := hrel
        by_cases hlt : k2 < k
        · have HST : Hid (lastL (xs.take (k2 + 1)) f t = bif isL f t (cntAt xs k2) then cntAt xs k2 else lastL (xs.take k2) f t) := by
            show lastL _ _ _ = _
            rw [take_cnt (by rw [HL.out]; exact hlt), lastL_snoc]
          obtain ⟨b, off, rfl, _, _, hbz, c0, c1, c2, c3⟩ := hR.out.c1.at_ hlt
          obtain ⟨z0, z1, z2, z3, zf0, zf1, zf2, zf3⟩ := hR.out.2.1.cells
          generalize cntAt xs k2 = x at *
          generalize lastL (xs.take k2) f t = y at *
          have HIS : Hid (isL f t x = (decide (x.fr = f) && decide (x.to_ = t))) := rfl
          by_cases h1 : x.fr = f
          · by_cases h2 : x.to_ = t
            · have HY : Hid (lastL (xs.take (k2 + 1)) f t = x) := by show lastL _ _ _ = _; rw [HST.out, HIS.out, decide_eq_true h1, decide_eq_true h2]; rfl
              have d1 : (x.fr == f) = true := by simpa using h1
              have d2 : (x.to_ == t) = true := by simpa using h2
              have HR2 := Lib.hid (CoRel.put hR.out HH.out x)
              clear h1 h2 HIS HST hR
              go_wp2
              go_roundw
              case rel => exact ⟨k2 + 1, by omega, by go_num, by show CoRel _ _ _ _ _ _ _ _ _ _ _; rw [HY.out]; exact HR2.out⟩
              case measure => simp [intOf]; omega
            · have HY : Hid (lastL (xs.take (k2 + 1)) f t = y) := by show lastL _ _ _ = _; rw [HST.out, HIS.out, decide_eq_true h1, decide_eq_false h2]; rfl
              have d1 : (x.fr == f) = true := by simpa using h1
              have d2 : (x.to_ == t) = false := by simpa using h2
              clear h1 h2 HIS HST
              go_wp2
              go_roundw
              case rel => exact ⟨k2 + 1, by omega, by go_num, by show CoRel _ _ _ _ _ _ _ _ _ _ _; rw [HY.out]; exact hR.out⟩
              case measure => simp [intOf]; omega
          · have HY : Hid (lastL (xs.take (k2 + 1)) f t = y) := by show lastL _ _ _ = _; rw [HST.out, HIS.out, decide_eq_false h1]; rfl
            have d1 : (x.fr == f) = false := by simpa using h1
            clear h1 HIS HST
            go_wp2
            go_roundw
            case rel => exact ⟨k2 + 1, by omega, by go_num, by show CoRel _ _ _ _ _ _ _ _ _ _ _; rw [HY.out]; exact hR.out⟩
            case measure => simp [intOf]; omega
        · obtain rfl : k2 = k := by omega
          have HTK : Hid (xs.take k2 = xs) := List.take_of_length_le (by rw [HL.out]; exact Nat.le_refl _)
          rw [HTK.out] at hR
          obtain ⟨⟨s0, s1⟩, s2, s3⟩ := small_last HS.out (by omega) f t
          obtain ⟨q1, q2⟩ := lastL_key xs f t
          generalize lastL xs f t = y at *
          obtain ⟨z0, z1, z2, z3, zf0, zf1, zf2, zf3⟩ := hR.out.2.1.cells
          obtain ⟨y1, y2, y3, y4⟩ := y
          simp only at q1 q2 s0 s1 s2 s3 z0 z1 z2 z3
          subst q1 q2
          clear hlt HTK
          have hA2 := CoRel.set2 hR.out HH.out (y3 + 1)
          have hA3 := CoRel.set3 hA2 HH.out (y4 + 1)
          have m2 := hA2.2.1.cells
          have m3 := hA3.2.1.cells
          obtain ⟨g2, g21, g22⟩ := hA2.2.2.1
          obtain ⟨g3, g31, g32⟩ := hA3.2.2.1
          simp only at hA2 hA3 m2 m3
          have HA2 := Lib.hid hA2
          have HA3 := Lib.hid hA3
          clear hR hA2 hA3
          cases bk
          · skip
            have HBM : Hid (bump ⟨y1, y2, y3, y4⟩ false = (⟨y1, y2, y3 + 1, y4⟩ : Cnt)) := by show bump _ _ = _; unfold bump; simp
            have HFN : Hid (cntOne xs y1 y2 false = (ys ++ [(⟨y1, y2, y3 + 1, y4⟩ : Cnt)]) ++ xs.filter (fun c => less (key y1 y2) c)) := by show _ = _; rw [HEX.out, HBM.out]
            go_upto_region 16 with (fail)
            clear z0 z1 z2 z3 zf0 zf1 zf2 zf3 m3 HA3 g32 g31
            generalize wr.setCell ⟨w.heap.size, 2, none⟩ (.int .i64 (y3 + 1)) = w4 at *
            go_wp2_with (at_builtin; refine wpList_gApp g2 _ _ _ g22 (⟨y1, y2, y3 + 1, y4⟩ : Cnt) (by have := HFL2.out; omega) _ _ rfl rfl rfl rfl ?_; intro g' v' w5 ha hg hgr)
            have HR5 := Lib.hid (CoRel.app HA2.out HH.out g21 ha hg hgr)
            have HYL : Hid ((ys ++ [(⟨y1, y2, y3 + 1, y4⟩ : Cnt)]).length ≤ k2 + 1) := by show _ ≤ _; have := HFL2.out; simp; omega
            clear ha hg hgr HA2 g22 m2 HEX HBM
            generalize ys ++ [(⟨y1, y2, y3 + 1, y4⟩ : Cnt)] = zs at *
            go_wp2
            go_loopw [10, 13] (fun v i wr => ∃ k3 : Nat, k3 ≤ k2 ∧ i = .int .i64 k3 ∧ Hid (CoRel lo hi w wr A k2 c xs (⟨y1, y2, y3 + 1, y4⟩ : Cnt) v (zs ++ (xs.take k3).filter (fun c => less (key y1 y2) c)))) (fun _ i _ => k2 - (intOf i).toNat)
            case atStart => exact ⟨0, Nat.zero_le _, rfl, by show CoRel _ _ _ _ _ _ _ _ _ _ _; simpa using HR5.out⟩
            case round =>
              obtain ⟨k3, hk3, rfl, hR⟩ := hrel
              clear HR5
              by_cases hlt : k3 < k2
              · have HST := Lib.hid (filter_take (xs := xs) (k := k3) (by rw [HL.out]; exact hlt) (fun c => less (key y1 y2) c))
                have HFL := Lib.hid (filter_len (xs := xs) (k := k3) (by rw [HL.out]; exact hk3) (fun c => less (key y1 y2) c))
                generalize (xs.take k3).filter (fun c => less (key y1 y2) c) = qs at *
                obtain ⟨b, off, rfl, _, _, hbz, c0, c1, c2, c3⟩ := hR.out.c1.at_ hlt
                obtain ⟨z0, z1, z2, z3, _⟩ := hR.out.2.1.cells
                simp only at z0 z1 z2 z3
                generalize cntAt xs k3 = x at *
                go_wp2
                go_still_tail 5, (by kernel_rfl)
                change wpList _ _ _ _ _ wr.drew
                cases hle : less (key y1 y2) x
                · rw [hle] at HST
                  simp only [cond_false, List.append_nil] at HST
                  go_wp2_with fail
                  ((with_reducible refine (l12LessB x y1 y2 _ _ _).mono ?_); rintro e w1 ⟨rfl, hb⟩)
                  rw [hle]
                  have HR := Lib.hid (hR.out.below (below_drew hb))
                  clear hb hR hle c0 c1 c2 c3 z0 z1 z2 z3 hbz
                  go_wp2
                  go_roundw
                  case rel => exact ⟨k3 + 1, by omega, by go_num, by show CoRel _ _ _ _ _ _ _ _ _ _ _; rw [HST.out]; exact HR.out⟩
                  case measure => simp [intOf]; omega
                · rw [hle] at HST
                  simp only [cond_true] at HST
                  go_wp2_with fail
                  ((with_reducible refine (l12LessB x y1 y2 _ _ _).mono ?_); rintro e w1 ⟨rfl, hb⟩)
                  rw [hle]
                  have HR := Lib.hid (hR.out.below (below_drew hb))
                  have hbd := below_drew hb
                  have d0 := (hbd.cell (p := ⟨b, off + k3 * 4, none⟩) hbz).trans c0
                  have d1 := (hbd.cell (p := ⟨b, off + k3 * 4 + 1, none⟩) hbz).trans c1
                  have d2 := (hbd.cell (p := ⟨b, off + k3 * 4 + 2, none⟩) hbz).trans c2
                  have d3 := (hbd.cell (p := ⟨b, off + k3 * 4 + 3, none⟩) hbz).trans c3
                  obtain ⟨g, hg1, hg2⟩ := HR.out.2.2.1
                  clear hb hbd hR hle c0 c1 c2 c3 z0 z1 z2 z3 hbz
                  go_wp2_with (at_builtin; refine wpList_gApp g _ _ _ hg2 x (by have := HFL.out; have := HYL.out; simp at *; omega) _ _ rfl rfl rfl rfl ?_; intro g' v' w2 ha hg hgr)
                  have HR2 := Lib.hid (CoRel.app HR.out HH.out hg1 ha hg hgr)
                  clear ha hg hgr HR hg2 d0 d1 d2 d3
                  go_wp2
                  go_roundw
                  case rel => exact ⟨k3 + 1, by omega, by go_num, by show CoRel _ _ _ _ _ _ _ _ _ _ _; rw [HST.out, ← List.append_assoc]; exact HR2.out⟩
                  case measure => simp [intOf]; omega
              · obtain rfl : k3 = k2 := by omega
                have HTK : Hid (xs.take k3 = xs) := List.take_of_length_le (by rw [HL.out]; exact Nat.le_refl _)
                rw [HTK.out] at hR
                clear hlt
                go_wp2
                go_ret
                rw [HFN.out]
                exact hR.out.post
          · skip
            have HBM : Hid (bump ⟨y1, y2, y3, y4⟩ true = (⟨y1, y2, y3 + 1, y4 + 1⟩ : Cnt)) := by show bump _ _ = _; unfold bump; simp
            have HFN : Hid (cntOne xs y1 y2 true = (ys ++ [(⟨y1, y2, y3 + 1, y4 + 1⟩ : Cnt)]) ++ xs.filter (fun c => less (key y1 y2) c)) := by show _ = _; rw [HEX.out, HBM.out]
            go_upto_region 16 with (fail)
            clear z0 z1 z2 z3 zf0 zf1 zf2 zf3 HA2 g22 g21 m2
            generalize (wr.setCell ⟨w.heap.size, 2, none⟩ (.int .i64 (y3 + 1))).setCell ⟨w.heap.size, 3, none⟩ (.int .i64 (y4 + 1)) = w4 at *
            go_wp2_with (at_builtin; refine wpList_gApp g3 _ _ _ g32 (⟨y1, y2, y3 + 1, y4 + 1⟩ : Cnt) (by have := HFL2.out; omega) _ _ rfl rfl rfl rfl ?_; intro g' v' w5 ha hg hgr)
            have HR5 := Lib.hid (CoRel.app HA3.out HH.out g31 ha hg hgr)
            have HYL : Hid ((ys ++ [(⟨y1, y2, y3 + 1, y4 + 1⟩ : Cnt)]).length ≤ k2 + 1) := by show _ ≤ _; have := HFL2.out; simp; omega
            clear ha hg hgr HA3 g32 m3 HEX HBM
            generalize ys ++ [(⟨y1, y2, y3 + 1, y4 + 1⟩ : Cnt)] = zs at *
            go_wp2
            go_loopw [10, 13] (fun v i wr => ∃ k3 : Nat, k3 ≤ k2 ∧ i = .int .i64 k3 ∧ Hid (CoRel lo hi w wr A k2 c xs (⟨y1, y2, y3 + 1, y4 + 1⟩ : Cnt) v (zs ++ (xs.take k3).filter (fun c => less (key y1 y2) c)))) (fun _ i _ => k2 - (intOf i).toNat)
            case atStart => exact ⟨0, Nat.zero_le _, rfl, by show CoRel _ _ _ _ _ _ _ _ _ _ _; simpa using HR5.out⟩
            case round =>
              obtain ⟨k3, hk3, rfl, hR⟩ := hrel
              clear HR5
              by_cases hlt : k3 < k2
              · have HST := Lib.hid (filter_take (xs := xs) (k := k3) (by rw [HL.out]; exact hlt) (fun c => less (key y1 y2) c))
                have HFL := Lib.hid (filter_len (xs := xs) (k := k3) (by rw [HL.out]; exact hk3) (fun c => less (key y1 y2) c))
                generalize (xs.take k3).filter (fun c => less (key y1 y2) c) = qs at *
                obtain ⟨b, off, rfl, _, _, hbz, c0, c1, c2, c3⟩ := hR.out.c1.at_ hlt
                obtain ⟨z0, z1, z2, z3, _⟩ := hR.out.2.1.cells
                simp only at z0 z1 z2 z3
                generalize cntAt xs k3 = x at *
                go_wp2
                go_still_tail 5, (by kernel_rfl)
                change wpList _ _ _ _ _ wr.drew
                cases hle : less (key y1 y2) x
                · rw [hle] at HST
                  simp only [cond_false, List.append_nil] at HST
                  go_wp2_with fail
                  ((with_reducible refine (l12LessB x y1 y2 _ _ _).mono ?_); rintro e w1 ⟨rfl, hb⟩)
                  rw [hle]
                  have HR := Lib.hid (hR.out.below (below_drew hb))
                  clear hb hR hle c0 c1 c2 c3 z0 z1 z2 z3 hbz
                  go_wp2
                  go_roundw
                  case rel => exact ⟨k3 + 1, by omega, by go_num, by show CoRel _ _ _ _ _ _ _ _ _ _ _; rw [HST.out]; exact HR.out⟩
                  case measure => simp [intOf]; omega
                · rw [hle] at HST
                  simp only [cond_true] at HST
                  go_wp2_with fail
                  ((with_reducible refine (l12LessB x y1 y2 _ _ _).mono ?_); rintro e w1 ⟨rfl, hb⟩)
                  rw [hle]
                  have HR := Lib.hid (hR.out.below (below_drew hb))
                  have hbd := below_drew hb
                  have d0 := (hbd.cell (p := ⟨b, off + k3 * 4, none⟩) hbz).trans c0
                  have d1 := (hbd.cell (p := ⟨b, off + k3 * 4 + 1, none⟩) hbz).trans c1
                  have d2 := (hbd.cell (p := ⟨b, off + k3 * 4 + 2, none⟩) hbz).trans c2
                  have d3 := (hbd.cell (p := ⟨b, off + k3 * 4 + 3, none⟩) hbz).trans c3
                  obtain ⟨g, hg1, hg2⟩ := HR.out.2.2.1
                  clear hb hbd hR hle c0 c1 c2 c3 z0 z1 z2 z3 hbz
                  go_wp2_with (at_builtin; refine wpList_gApp g _ _ _ hg2 x (by have := HFL.out; have := HYL.out; simp at *; omega) _ _ rfl rfl rfl rfl ?_; intro g' v' w2 ha hg hgr)
                  have HR2 := Lib.hid (CoRel.app HR.out HH.out hg1 ha hg hgr)
                  clear ha hg hgr HR hg2 d0 d1 d2 d3
                  go_wp2
                  go_roundw
                  case rel => exact ⟨k3 + 1, by omega, by go_num, by show CoRel _ _ _ _ _ _ _ _ _ _ _; rw [HST.out, ← List.append_assoc]; exact HR2.out⟩
                  case measure => simp [intOf]; omega
              · obtain rfl : k3 = k2 := by omega
                have HTK : Hid (xs.take k3 = xs) := List.take_of_length_le (by rw [HL.out]; exact Nat.le_refl _)
                rw [HTK.out] at hR
                clear hlt
                go_wp2
                go_ret
                rw [HFN.out]
                exact hR.out.post

end Sp7
end Go.Proofs.Ytbhafchdcofceaa
