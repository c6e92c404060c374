/-
  Contracts of the model's chapter 23: pieces repaired.
-/
import Derived.Test.YtoghgliijjfppabSp11c
namespace Go.Proofs.Ytoghgliijjfppab
open Go.RowKit
namespace Sp11
open Il Sl Fo Cm Cs Gm Mm Pc Sp2

/-- What is left of the parity, while pieces are read. -/
def RepR (w wr : World) (b o d : Nat) (A : Option Addr) (n c : Nat) (ps : List (List Int)) (ys : List Int) : Prop :=
  Il.Own w.heap.size wr.heap.size wr (some ⟨b, o, none⟩) 3 d ys ∧ Sts 0 w.heap.size wr A n c ps ∧ Below w.heap.size w wr
theorem RepR.dr {w wr : World} {b o d n c : Nat} {A : Option Addr} {ps : List (List Int)} {ys : List Int} (h : RepR w wr b o d A n c ps ys) (q : Nat) : RepR w (wr.drewN q) b o d A n c ps ys := ⟨h.1, h.2.1, Ck.below_dr h.2.2⟩
theorem RepR.put {w wr : World} {b o d n c : Nat} {A : Option Addr} {ps : List (List Int)} {ys : List Int} (h : RepR w wr b o d A n c ps ys) {k : Nat} (hk : k < 3) (v : Int) : RepR w (wr.setCell ⟨b, o + k, none⟩ (.int .i64 v)) b o d A n c ps (ys.set k v) := by
  obtain ⟨h1, h2, h3⟩ := h
  obtain ⟨b', off, e, q1, q2, q3, _⟩ := h1.1.2.2.2 (by omega)
  simp only [Option.some.injEq, Addr.mk.injEq, and_true] at e
  obtain ⟨rfl, rfl⟩ := e
  have hb : Below w.heap.size wr (wr.setCell ⟨b, o + k, none⟩ (.int .i64 v)) := (Below.refl _ _).setCell (p := ⟨b, o + k, none⟩) q1 _
  exact ⟨(h1.set_ hk v).mono (Nat.le_refl _) hb.size, h2.below' hb (Nat.le_refl _), h3.trans hb⟩
theorem slice_may {ps : List (List Int)} {j : Nat} (h : ∀ x ∈ ps, maybe x = true) (hj : j < ps.length) : ((slAt ps j).length = 0 ∨ (slAt ps j).length = 3) ∧ in3 (fil z3 (slAt ps j)) ∧ (0 < (slAt ps j).length → l3 (fil z3 (slAt ps j)) = slAt ps j) := by
  have hm : slAt ps j ∈ ps := by unfold slAt; rw [List.getD_eq_getElem?_getD, List.getElem?_eq_getElem hj]; exact List.getElem_mem hj
  have h2 := h _ hm
  refine ⟨?_, maybe_in h2 z3_in, fun h0 => ?_⟩
  · simp only [maybe, Bool.or_eq_true] at h2
    rcases h2 with h2 | h2
    · rw [List.isEmpty_iff] at h2; rw [h2]; exact .inl rfl
    · exact .inr (pieceOk_iff.1 h2).2
  · simp only [maybe, Bool.or_eq_true] at h2
    rcases h2 with h2 | h2
    · rw [List.isEmpty_iff] at h2; rw [h2] at h0; simp at h0
    · exact fil_full (pieceOk_iff.1 h2).2
theorem mix_end {f p : T3} {m : Nat} {xs : List Int} (hf : in3 f) (hp : fil z3 xs = p) (hm : xs.length = m) (h : m = 0 ∨ m = 3) : mixT (-1) f p m = ad (-1) f p := by
  rcases h with rfl | rfl
  · obtain rfl := List.eq_nil_of_length_eq_zero hm
    rw [← hp]
    show f = ad (-1) f z3
    exact (ad_zero hf _).symm
  · rfl
/-- What is copied. -/
def CpR (w wr : World) (lo b o d : Nat) (A : Option Addr) (n c : Nat) (ps : List (List Int)) (r : T3) (v : Value) (j : Nat) : Prop :=
  Ints 0 lo wr (some ⟨b, o, none⟩) 3 d (l3 r) ∧ Sts 0 w.heap.size wr A n c ps ∧ Below w.heap.size w wr ∧ lo ≤ wr.heap.size ∧ ∃ ss : List Sk, GatK lo wr.heap.size wr v ss ∧ ss.map (·.xs) = (ps.take j).map fun xs => l3 (fil r xs)
theorem CpR.next {w wr w6 : World} {lo b o d n c : Nat} {A : Option Addr} {ps : List (List Int)} {r : T3} {v6 : Value} {j : Nat} {ss : List Sk} {x : Sk} (hlo : w.heap.size ≤ lo) (h1 : Ints 0 lo wr (some ⟨b, o, none⟩) 3 d (l3 r)) (h2 : Sts 0 w.heap.size wr A n c ps) (h3 : Below w.heap.size w wr)
    (h5 : ss.map (·.xs) = (ps.take j).map fun xs => l3 (fil r xs)) (hg : GatK lo w6.heap.size w6 v6 (ss ++ [x])) (hb : Below lo wr w6) (hz : lo ≤ wr.heap.size) (hx : (ps.take (j + 1)).map (fun xs => l3 (fil r xs)) = (ps.take j).map (fun xs => l3 (fil r xs)) ++ [x.xs]) : CpR w w6 lo b o d A n c ps r v6 (j + 1) := by
  refine ⟨h1.keep hb.size fun y _ q1 q2 => hb.block y q1, h2.below' (hb.mono hlo) (Nat.le_refl _), h3.trans (hb.mono hlo), by have := hb.size; omega, _, hg, ?_⟩
  rw [List.map_append, h5, hx]
  rfl
/-- A copy of a list as a slot. -/
theorem copy_slot {wr : World} {xs : List Int} : ∀ g5 v5 w5, Dest 3 1 g5 w5 v5 (0 + xs.length) ([] ++ xs.map (Value.int .i64)) → (g5 = some wr.heap.size ∨ ∃ k, g5 = some k ∧ (wr.alloc (.cells #[] 3)).heap.size ≤ k) → World.grownBy (wr.alloc (.cells #[] 3)) w5 (some wr.heap.size) →
    ∃ A5 c5 b5, v5 = .slice A5 xs.length c5 ∧ SkO w5 ⟨xs, A5, c5, b5⟩ ∧ (∀ y ∈ fpk ⟨xs, A5, c5, b5⟩, wr.heap.size ≤ y) ∧ Below wr.heap.size wr w5 := fun g5 v5 w5 hd5 hg5 hgr5 => by
  have hal : Below wr.heap.size wr (wr.alloc (.cells #[] 3)) := (Below.refl _ _).alloc (Nat.le_refl _) _
  have hd6 : Dest 3 1 g5 w5 v5 xs.length (xs.map (Value.int .i64)) := by simpa using hd5
  obtain ⟨A5, c5, b5, h1, ho5, hf5⟩ := Ck.sk_new hd6 hg5 (Nat.le_refl _) hal.size
  exact ⟨A5, c5, b5, h1, ho5, hf5, hal.grown hgr5 (by simp) (fun k hk => by simp at hk; omega)⟩
/-- A list of lists, gathered, and a bool. -/
def PairG (xss : List (List Int)) (t : Bool) (w : World) (e : Ending) (w' : World) : Prop :=
  ∃ v ss, e = .returned (.tuple #[v, .bool t]) ∧ GatK w.heap.size w'.heap.size w' v ss ∧ ss.map (·.xs) = xss ∧ Below w.heap.size w w'
set_option maxRecDepth 20000 in
set_option maxHeartbeats 4000000 in
theorem PiecesRepair (lo hi lo2 hi2 : Nat) (A B : Option Addr) (n c m e : Nat) (ps : List (List Int)) (q : List Int) (w : World) (hx : Sts lo hi w A n c ps) (hq : Ints lo2 hi2 w B m e q) :
    Calls Try.prog 23 #[.slice A n c, .slice B m e] w (PairG (repF ps q) (repOk ps q) w) := by
  have hk1 := hx.max_
  have hk2 := hx.cap_
  unfold maxLen at hk1
  have HX := Lib.hid hx
  have HQ := Lib.hid hq
  have HL := Lib.hid hx.len_
  have HNIL : Hid (repOk ps q = false → PairG (repF ps q) (repOk ps q) w (.returned (.tuple #[.slice (some ⟨w.heap.size, 0, none⟩) 0 0, .bool false])) (w.alloc (.cells #[] 22))) := fun h => by rw [repF_no h, h]; exact ⟨_, [], rfl, GatK.nil_ _, rfl, (Below.refl _ _).alloc (Nat.le_refl _) _⟩
  have hpm := pcs_miss ps 1
  clear hx hq
  cases hok : pcsOk ps 1
  · have HV := Lib.hid (HNIL.out (by unfold repOk; rw [hok]; rfl))
    rw [hok] at hpm
    have HF : Hid (decide (0 ≤ missF ps ∧ missF ps ≤ 1) = false) := hpm.symm
    clear hpm hok
    go_enter Try.func23, Try.ntmps23
    go_wp2_with fail
    ((with_reducible refine (l23Missing _ _ _ _ _ ps _ HX.out).mono ?_); rintro e w1 ⟨rfl, rfl⟩)
    generalize missF ps = mm at *
    go_wp2_with fail
    ((with_reducible refine (l6In mm 0 1 _).mono ?_); rintro e w1 ⟨rfl, rfl⟩)
    rw [HF.out]
    go_wp2
    go_ret2
    exact HV.out
  rw [hok] at hpm
  have HF : Hid (decide (0 ≤ missF ps ∧ missF ps ≤ 1) = true) := hpm.symm
  cases hpk : pieceOk q
  · have HV := Lib.hid (HNIL.out (by unfold repOk; rw [hok, hpk]; rfl))
    clear hpm hok
    go_enter Try.func23, Try.ntmps23
    go_wp2_with fail
    ((with_reducible refine (l23Missing _ _ _ _ _ ps _ HX.out).mono ?_); rintro e w1 ⟨rfl, rfl⟩)
    generalize missF ps = mm at *
    go_wp2_with fail
    ((with_reducible refine (l6In mm 0 1 _).mono ?_); rintro e w1 ⟨rfl, rfl⟩)
    rw [HF.out]
    go_wp2_with fail
    ((with_reducible refine (l23Piece _ _ _ _ _ q _ HQ.out).mono ?_); rintro e w1 ⟨rfl, rfl⟩)
    rw [hpk]
    clear hpk
    go_wp2
    go_ret2
    exact HV.out
  have hr : repOk ps q = true := repOk_iff.2 ⟨hok, hpk⟩
  have HMY := Lib.hid (pcsOk_iff.1 hok).2.1
  have hn5 : n ≤ 5 := by rw [← HL.out]; exact (pcsOk_iff.1 hok).1.2
  have hql : q.length = 3 := (pieceOk_iff.1 hpk).2
  have HIQ := Lib.hid (piece_in hpk z3)
  have hm3 : m = 3 := by rw [← HQ.out.1]; exact hql
  have HQF : Hid (l3 (fil z3 q) = q) := fil_full hql
  rw [repF_yes hr, hr]
  have HLOST : Hid (lost ps q = sumP (-1) (fil z3 q) ps) := rfl
  subst hm3
  have hal : Below w.heap.size w (w.alloc (.cells #[] 3)) := (Below.refl _ _).alloc (Nat.le_refl _) _
  have HD : Hid (Dest 3 1 (some w.heap.size) (w.alloc (.cells #[] 3)) (.slice (some ⟨w.heap.size, 0, none⟩) 0 0) 0 []) := .inr ⟨_, rfl, accV_new w _ _⟩
  have HRW := Lib.hid (ints_row (HQ.out.below hal (Nat.le_refl _)))
  have HAL := Lib.hid hal
  have HR1 : Hid (∀ g5 v5 w5, Dest 3 1 g5 w5 v5 (0 + 3) ([] ++ q.map (Value.int .i64)) → (g5 = some w.heap.size ∨ ∃ k, g5 = some k ∧ (w.alloc (.cells #[] 3)).heap.size ≤ k) → World.grownBy (w.alloc (.cells #[] 3)) w5 (some w.heap.size) →
      ∃ b o d, v5 = .slice (some ⟨b, o, none⟩) 3 d ∧ RepR w w5 b o d A n c ps (l3 (sumP (-1) (fil z3 q) (ps.take 0)))) := fun g5 v5 w5 hd5 hg5 hgr5 => by
    have hb5 : Below w.heap.size w w5 := HAL.out.grown hgr5 (by simp) (fun k hk => by simp at hk; omega)
    have hd6 : Dest 3 1 g5 w5 v5 q.length (q.map (Value.int .i64)) := by rw [hql]; simpa using hd5
    obtain ⟨A1, c1, e1, ho, _⟩ := Lb.dest_new (w := w) hd6 (fun k hk => by
      rcases hg5 with h | ⟨k', h, hk'⟩
      · rw [h] at hk; cases hk; exact Nat.le_refl _
      · rw [h] at hk; cases hk; have := HAL.out.size; omega) hb5
    simp only [Ending.returned.injEq] at e1
    subst e1
    rw [hql] at ho ⊢
    obtain ⟨b, o, rfl, _⟩ := ho.1.2.2.2 (by omega)
    refine ⟨b, o, c1, rfl, ?_, (HX.out.top (Nat.zero_le _)).below hb5 (Nat.le_refl _), hb5⟩
    show Il.Own _ _ _ _ _ _ (l3 (fil z3 q))
    rw [HQF.out]
    exact ho
  clear hal hpm hok hr hql
  go_enter Try.func23, Try.ntmps23
  go_wp2_with fail
  ((with_reducible refine (l23Missing _ _ _ _ _ ps _ HX.out).mono ?_); rintro e w1 ⟨rfl, rfl⟩)
  generalize missF ps = mm at *
  go_wp2_with fail
  ((with_reducible refine (l6In mm 0 1 _).mono ?_); rintro e w1 ⟨rfl, rfl⟩)
  rw [HF.out]
  go_wp2_with fail
  ((with_reducible refine (l23Piece _ _ _ _ _ q _ HQ.out).mono ?_); rintro e w1 ⟨rfl, rfl⟩)
  rw [hpk]
  clear hpk
  go_wp2_with (at_builtin; refine wpList_appD elInt _ _ _ _ _ HD.out _ _ _ _ _ _ HRW.out (ints_one_cell _) (by omega) _ _ rfl rfl rfl rfl ?_; intro g5 v5 w5 hd5 hg5 hgr5)
  obtain ⟨b, o, d, rfl, hR0⟩ := HR1.out g5 v5 w5 hd5 hg5 hgr5
  have HR0 := Lib.hid hR0
  clear hd5 hg5 hgr5 HD HRW HAL HR1 hR0
  go_wp2
  go_loopw [8] (fun i wr => ∃ j : Nat, j ≤ n ∧ i = .int .i64 j ∧ Hid (RepR w wr b o d A n c ps (l3 (sumP (-1) (fil z3 q) (ps.take j))))) (fun i _ => n - (intOf i).toNat)
  case atStart => exact ⟨0, Nat.zero_le _, rfl, HR0.out⟩
  case round =>
    obtain ⟨j, hj, rfl, hR⟩ := hrel
    clear HR0
    by_cases hlt : j < n
    · obtain ⟨hx3, hxi, hxf⟩ := slice_may (j := j) HMY.out (by rw [HL.out]; exact hlt)
      have HXF := Lib.hid hxf
      have HAD : Hid (l3 (sumP (-1) (fil z3 q) (ps.take (j + 1))) = l3 (ad (-1) (sumP (-1) (fil z3 q) (ps.take j)) (fil z3 (slAt ps j)))) := by show _ = _; rw [← Ck.take_slot (by rw [HL.out]; exact hlt), sumP_snoc]
      have hqi : in3 (sumP (-1) (fil z3 q) (ps.take j)) := sumP_in HIQ.out _
      have hw2 : IntKind.i64.wrap ((j : Int) + 1) = (j : Int) + 1 := IntWalk.i64_in _ (by omega)
      clear hxf
      generalize sumP (-1) (fil z3 q) (ps.take j) = f at *
      obtain ⟨ml, hml⟩ : ∃ ml, (slAt ps j).length = ml := ⟨_, rfl⟩
      have HML := Lib.hid hml
      have HEND : Hid (mixT (-1) f (fil z3 (slAt ps j)) ml = ad (-1) f (fil z3 (slAt ps j))) := mix_end hqi rfl hml (by rw [← hml]; exact hx3)
      rw [hml] at hx3 HXF
      clear hml
      generalize fil z3 (slAt ps j) = p at *
      go_wp2
      go_loopw [9] (fun i W => ∃ k : Nat, k ≤ ml ∧ i = .int .i64 k ∧ Hid (RepR w W b o d A n c ps (l3 (mixT (-1) f p k)))) (fun i _ => ml - (intOf i).toNat)
      case atStart => exact ⟨0, by omega, rfl, hR.out⟩
      case round =>
        obtain ⟨k, hk, rfl, hI⟩ := hrel
        clear hR
        obtain ⟨r1, r2, r3⟩ := hI.out
        obtain ⟨b1, off, B1, e1, rfl, _, hbw, hbz, cB, iB⟩ := r2.at_ hlt
        rw [HML.out] at cB iB
        by_cases hk3 : k < ml
        · have hml3 : ml = 3 := by omega
          subst hml3
          obtain ⟨b2, off2, rfl, _, _, c2⟩ := iB.at_ hk3
          obtain ⟨b3, off3, e3, _, _, c3⟩ := r1.1.at_ hk3
          simp only [Option.some.injEq, Addr.mk.injEq, and_true] at e3
          obtain ⟨rfl, rfl⟩ := e3
          have hfz := r1.2 _ _ (by omega) rfl k hk3
          have hb1 := mix_in (s := -1) (p := p) (k := k) hqi hk3
          have hb2 := l3_in hxi hk3
          have HPUT : Hid (∀ v, v = ((l3 (mixT (-1) f p k)).getD k 0 + 991 - (slAt ps j).getD k 0) % 991 → RepR w (wr.setCell ⟨b, o + k, none⟩ (.int .i64 v)).drew b o d (some ⟨b1, off, none⟩) n c ps (l3 (mixT (-1) f p (k + 1)))) := fun v hv => by
            have h := (hI.out.put hk3 v).dr 1
            rw [hv, ← HXF.out (by omega)] at h ⊢
            rw [mix_sub _ _ hk3] at h
            exact h
          rw [HXF.out (by omega)] at hb2
          clear r1 r2 r3 hI iB
          generalize (l3 (mixT (-1) f p k)).getD k 0 = a at *
          generalize (slAt ps j).getD k 0 = x at *
          have e2 : IntKind.i64.wrap (a + 991) = a + 991 := IntWalk.i64_in _ (by omega)
          have e3 : IntKind.i64.wrap (a + 991 - x) = a + 991 - x := IntWalk.i64_in _ (by omega)
          have e4 : (a + 991 - x).tmod 991 = (a + 991 - x) % 991 := Int.tmod_eq_emod_of_nonneg (by omega)
          go_wp2
          go_region
          have HN := Lib.hid (HPUT.out _ rfl)
          clear HPUT cB c2 c3 hfz e2 e3 e4
          generalize (wr.setCell ⟨b, o + k, none⟩ (.int .i64 ((a + 991 - x) % 991))).drew = W4 at *
          go_wp2
          go_roundw
          case rel => exact ⟨k + 1, by omega, by go_num, HN.out⟩
          case measure => simp [intOf]; omega
        · obtain rfl : k = ml := by omega
          have HN : Hid (RepR w wr b o d (some ⟨b1, off, none⟩) n c ps (l3 (sumP (-1) (fil z3 q) (ps.take (j + 1))))) := by show RepR _ _ _ _ _ _ _ _ _ _; rw [HAD.out, ← HEND.out]; exact hI.out
          clear hI hk3 r1 r2 r3 iB
          go_wp2
          go_roundw
          case rel => exact ⟨j + 1, by omega, by go_num, HN.out⟩
          case measure => simp [intOf]; omega
    · obtain rfl : j = n := by omega
      have hps : ps.take j = ps := List.take_of_length_le (by rw [HL.out]; exact Nat.le_refl _)
      obtain ⟨r1, r2, r3⟩ := hR.out
      rw [hps, ← HLOST.out] at r1
      have hwr := r3.size
      have hal : Below wr.heap.size wr (wr.alloc (.cells #[] 22)) := (Below.refl _ _).alloc (Nat.le_refl _) _
      obtain ⟨lo3, hlo3⟩ : ∃ l, l = wr.heap.size := ⟨_, rfl⟩
      have HC0 : Hid (CpR w (wr.alloc (.cells #[] 22)) lo3 b o d A j c ps (lost ps q) (.slice (some ⟨wr.heap.size, 0, none⟩) 0 0) 0) := by
        rw [hlo3]
        exact ⟨((ints_topS r1.1 (Nat.zero_le _)).below hal (Nat.le_refl _)).mono (Nat.le_refl _) (Nat.le_refl _), r2.below hal (Nat.le_refl _), r3.trans (hal.mono hwr), hal.size, [], GatK.nil_ _, rfl⟩
      have HREP : Hid (ps.map (fun xs => l3 (fil (lost ps q) xs)) = repL ps q) := rfl
      rw [← hlo3] at hwr
      clear hR hlt r1 r2 r3 hal hlo3
      generalize lost ps q = r at *
      go_wp2
      go_loopw [10, 11] (fun v i W => ∃ k : Nat, k ≤ j ∧ i = .int .i64 k ∧ Hid (CpR w W lo3 b o d A j c ps r v k)) (fun _ i _ => j - (intOf i).toNat)
      case atStart => exact ⟨0, Nat.zero_le _, rfl, HC0.out⟩
      case round =>
        obtain ⟨k, hk, rfl, hC⟩ := hrel
        clear HC0
        obtain ⟨s1, s2, s3, s4, ss, s5, s6⟩ := hC.out
        by_cases hlt : k < j
        · obtain ⟨b1, off, B1, e1, rfl, _, hbw, hbz, cB, iB⟩ := s2.at_ hlt
          have hlk : k < ps.length := by rw [HL.out]; exact hlt
          obtain ⟨hx3, _, _⟩ := slice_may (j := k) HMY.out hlk
          have HNX : Hid ((ps.take (k + 1)).map (fun xs => l3 (fil r xs)) = (ps.take k).map (fun xs => l3 (fil r xs)) ++ [l3 (fil r (slAt ps k))]) := by show _ = _; rw [← Ck.take_slot hlk, List.map_append]; rfl
          have hssl : ss.length ≤ 100000 := by
            have h1 : (ss.map (·.xs)).length = k := by rw [s6, List.length_map, List.length_take, HL.out]; omega
            rw [List.length_map] at h1
            omega
          have hal : Below wr.heap.size wr (wr.alloc (.cells #[] 3)) := (Below.refl _ _).alloc (Nat.le_refl _) _
          have cBa : (wr.alloc (.cells #[] 3)).cell? ⟨b1, off + k, none⟩ = some (.slice B1 (slAt ps k).length e1) := (hal.cell (p := ⟨b1, off + k, none⟩) hbz).trans cB
          have HD : Hid (Dest 3 1 (some wr.heap.size) (wr.alloc (.cells #[] 3)) (.slice (some ⟨wr.heap.size, 0, none⟩) 0 0) 0 []) := .inr ⟨_, rfl, accV_new wr _ _⟩
          have HGK := Lib.hid s5
          have HS1 := Lib.hid s1
          have HS2 := Lib.hid s2
          have HS3 := Lib.hid s3
          have HS6 := Lib.hid s6
          have hw2 : IntKind.i64.wrap ((k : Int) + 1) = (k : Int) + 1 := IntWalk.i64_in _ (by omega)
          by_cases h0 : (slAt ps k).length = 0
          · obtain ⟨rr, hrr⟩ : ∃ rr, rr = l3 r := ⟨_, rfl⟩
            have HFI : Hid (l3 (fil r (slAt ps k)) = rr) := by show _ = _; rw [List.eq_nil_of_length_eq_zero h0, hrr]; rfl
            have HRW : Hid (Row 0 lo3 (wr.alloc (.cells #[] 3)) (some ⟨b, o, none⟩) 3 d 1 (rr.map (Value.int .i64))) := by show Row _ _ _ _ _ _ _ _; rw [hrr]; exact ints_row (s1.below hal (Nat.le_refl _))
            have HSL := Lib.hid (copy_slot (wr := wr) (xs := rr))
            have hl3 : rr.length = 3 := by rw [hrr]; rfl
            have HL3 := Lib.hid hl3
            rw [h0] at cB cBa
            clear s1 s2 s3 s5 s6 hal iB hC hx3 h0 hl3 hrr
            go_wp2_with (at_builtin; first
              | (refine wpList_appD elInt _ _ _ _ _ HD.out _ _ _ _ _ _ HRW.out (ints_one_cell _) (by omega) _ _ rfl rfl rfl rfl ?_; intro g5 v5 w5 hd5 hg5 hgr5; obtain ⟨A5, c5, b5, rfl, ho5, hf5, hb5⟩ := HSL.out g5 v5 w5 (by rw [HL3.out]; exact hd5) hg5 hgr5)
              | (refine wpList_gatK (x := ⟨rr, A5, c5, b5⟩) (HGK.out.below hb5 (Nat.le_refl _)) ho5 hf5 s4 hb5.size hssl _ _ rfl rfl rfl (by go_simp) ?_; intro v6 w6 hg6 hb6 hk6; obtain ⟨A6, m6, c6, rfl⟩ := hg6.sl))
            have HN : Hid (CpR w w6 lo3 b o d (some ⟨b1, off, none⟩) j c ps r (.slice A6 m6 c6) (k + 1)) := CpR.next hwr HS1.out HS2.out HS3.out HS6.out hg6 ((hb5.mono s4).trans hb6) s4 (by rw [HNX.out, HFI.out])
            clear hg6 hb6 hk6 hb5 ho5 hf5 hd5 hg5 hgr5 HD HRW HGK HS1 HS2 HS3 cB cBa
            go_wp2
            go_roundw
            case rel => exact ⟨k + 1, by omega, by go_num, HN.out⟩
            case measure => simp [intOf]; omega
          · have hm3 : (slAt ps k).length = 3 := by omega
            have HFI : Hid (l3 (fil r (slAt ps k)) = slAt ps k) := fil_full hm3
            rw [hm3] at cB cBa iB
            have HRW := Lib.hid (ints_row (iB.below hal (Nat.le_refl _)))
            have HSL := Lib.hid (copy_slot (wr := wr) (xs := slAt ps k))
            have HL3 := Lib.hid hm3
            clear s1 s2 s3 s5 s6 hal iB hC hx3 h0 hm3
            generalize slAt ps k = rr at *
            go_wp2_with (at_builtin; first
              | (refine wpList_appD elInt _ _ _ _ _ HD.out _ _ _ _ _ _ HRW.out (ints_one_cell _) (by omega) _ _ rfl rfl rfl rfl ?_; intro g5 v5 w5 hd5 hg5 hgr5; obtain ⟨A5, c5, b5, rfl, ho5, hf5, hb5⟩ := HSL.out g5 v5 w5 (by rw [HL3.out]; exact hd5) hg5 hgr5)
              | (refine wpList_gatK (x := ⟨rr, A5, c5, b5⟩) (HGK.out.below hb5 (Nat.le_refl _)) ho5 hf5 s4 hb5.size hssl _ _ rfl rfl rfl (by go_simp) ?_; intro v6 w6 hg6 hb6 hk6; obtain ⟨A6, m6, c6, rfl⟩ := hg6.sl))
            have HN : Hid (CpR w w6 lo3 b o d (some ⟨b1, off, none⟩) j c ps r (.slice A6 m6 c6) (k + 1)) := CpR.next hwr HS1.out HS2.out HS3.out HS6.out hg6 ((hb5.mono s4).trans hb6) s4 (by rw [HNX.out, HFI.out])
            clear hg6 hb6 hk6 hb5 ho5 hf5 hd5 hg5 hgr5 HD HRW HGK HS1 HS2 HS3 cB cBa
            go_wp2
            go_roundw
            case rel => exact ⟨k + 1, by omega, by go_num, HN.out⟩
            case measure => simp [intOf]; omega
        · obtain rfl : k = j := by omega
          have HP : Hid (PairG (repL ps q) true w (.returned (.tuple #[u10, .bool true])) wr) := by
            refine ⟨_, ss, rfl, s5.mono hwr (Nat.le_refl _), ?_, s3⟩
            rw [s6, hps]
            exact HREP.out
          obtain ⟨A9, m9, c9, rfl⟩ := s5.sl
          clear s1 s2 s3 s5 s6 hC hlt
          go_wp2
          go_ret2
          exact HP.out

end Sp11
end Go.Proofs.Ytoghgliijjfppab
