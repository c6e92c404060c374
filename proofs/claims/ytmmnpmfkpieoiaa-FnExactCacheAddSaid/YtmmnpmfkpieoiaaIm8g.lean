/-
  Contracts of the program's chapter 13: the keys of an epoch, a new epoch, a key more.
-/
import Derived.Test.YtmmnpmfkpieoiaaIm8c
import Derived.Test.YtmmnpmfkpieoiaaIm8f
namespace Go.Proofs.Ytmmnpmfkpieoiaa
open Go.RowKit
namespace Im8
open Il Sl Fo Cm Cs Sg Gm
open Sp8 (slot_small all_small ints_new newInts_nil cacheP_fin two_blocks)

/-- The three slots that stand for a cache. -/
theorem three_nd {c : Ch} {L : List Nd} (h : L.map (fun nd => (nd.ep, nd.s.xs)) = [(c.ep - 2, slAt c.sl 0), (c.ep - 1, slAt c.sl 1), (c.ep, slAt c.sl 2)]) :
    ∃ n0 n1 n2, L = [n0, n1, n2] ∧ (n0.ep = c.ep - 2 ∧ n1.ep = c.ep - 1 ∧ n2.ep = c.ep) ∧ n0.s.xs = slAt c.sl 0 ∧ n1.s.xs = slAt c.sl 1 ∧ n2.s.xs = slAt c.sl 2 := by
  have hl := congrArg List.length h
  rw [List.length_map] at hl
  obtain ⟨n0, n1, n2, rfl⟩ : ∃ n0 n1 n2, L = [n0, n1, n2] := by
    rcases L with _ | ⟨n0, _ | ⟨n1, _ | ⟨n2, _ | ⟨n3, L⟩⟩⟩⟩
    · simp at hl
    · simp at hl
    · simp at hl
    · exact ⟨n0, n1, n2, rfl⟩
    · simp at hl
  simp only [List.map_cons, List.map_nil, List.cons.injEq, Prod.mk.injEq, and_true] at h
  exact ⟨n0, n1, n2, rfl, ⟨h.1.1, h.2.1.1, h.2.2.1⟩, h.1.2, h.2.1.2, h.2.2.2⟩
theorem three_sl {sl : List (List Int)} (h : sl.length = 3) : sl = [slAt sl 0, slAt sl 1, slAt sl 2] := by
  match sl, h with
  | [a, b, c], _ => rfl
/-- The slot that is found. -/
theorem find_ix {c : Ch} {L : List Nd} (h : L.map (fun nd => (nd.ep, nd.s.xs)) = [(c.ep - 2, slAt c.sl 0), (c.ep - 1, slAt c.sl 1), (c.ep, slAt c.sl 2)]) (e : Int) :
    (slotIx c.ep e = -1 ∧ findE e L = none) ∨ ∃ (k : Nat) (P : List Nd) (nd : Nd) (R : List Nd), slotIx c.ep e = k ∧ k < 3 ∧ L = P ++ nd :: R ∧ P.length = k ∧ findE e L = some ⟨nd.b, 0, none⟩ ∧ nd.s.xs = slAt c.sl k := by
  obtain ⟨n0, n1, n2, rfl, ⟨e0, e1, e2⟩, x0, x1, x2⟩ := three_nd h
  by_cases hin : 0 ≤ e ∧ e ≤ c.ep ∧ c.ep - e ≤ 2
  · have hne : decide (e < 0) = false := by simp; omega
    right
    rw [slotIx_yes hin]
    unfold findE
    rw [hne]
    have h3 : e = c.ep - 2 ∨ e = c.ep - 1 ∨ e = c.ep := by omega
    rcases h3 with h3 | h3 | h3
    · refine ⟨0, [], n0, [n1, n2], by omega, by omega, rfl, rfl, ?_, x0⟩
      rw [atE_yes _ (by omega)]; rfl
    · refine ⟨1, [n0], n1, [n2], by omega, by omega, rfl, rfl, ?_, x1⟩
      rw [atE_no _ (by omega), atE_yes _ (by omega)]; rfl
    · refine ⟨2, [n0, n1], n2, [], by omega, by omega, rfl, rfl, ?_, x2⟩
      rw [atE_no _ (by omega), atE_no _ (by omega), atE_yes _ (by omega)]; rfl
  · left
    refine ⟨slotIx_no hin, ?_⟩
    unfold findE
    by_cases hn : e < 0
    · rw [decide_eq_true hn]; rfl
    · rw [decide_eq_false hn, atE_no _ (by omega), atE_no _ (by omega), atE_no _ (by omega)]; rfl
theorem foot_mem {nd : Nd} {P R : List Nd} (h : Foot (FpN (P ++ nd :: R))) : nd.b ∉ nd.s.g.toList := fun hx => by
  rw [fpN_app, fpN_cons] at h
  have h2 := (foot_app.1 h).2.1
  rw [foot_cons] at h2
  exact h2.1 _ (List.mem_cons_self ..) nd.b (List.mem_singleton.2 rfl) hx
/-- One slot has turned. -/
theorem chN_upd {w w' : World} {nd : Nd} {s' : Kd} {u : Option Addr} {R : List Nd} (hk : KeptG [[nd.b], nd.s.g.toList] w w') (hb : NdB w' ⟨nd.b, nd.ep, s'⟩ u) (hs : KdO w' s') (hu : NdB w nd u) :
    ∀ {P : List Nd} {a : Option Addr}, ChN w a (P ++ nd :: R) → Foot (FpN (P ++ nd :: R)) → ChN w' a (P ++ ⟨nd.b, nd.ep, s'⟩ :: R)
  | [], _, ⟨u2, e, hb2, hs2, hn⟩, hf => by
    have huu : u2 = u := by
      have q1 := (nd_cells hb2).2.2.1
      rw [(nd_cells hu).2.2.1] at q1
      simpa using q1.symm
    subst huu
    rw [List.nil_append, fpN_cons, foot_cons, foot_cons] at hf
    refine ⟨u2, e, hb, hs, hn.keep fun f hfm x hx => hk.block x (hn.lt_ f hfm x hx) fun g hg hxg => ?_⟩
    simp only [List.mem_cons, List.not_mem_nil, or_false] at hg
    rcases hg with rfl | rfl
    · exact hf.1 f (List.mem_cons_of_mem _ hfm) x hxg hx
    · exact hf.2.1 f hfm x hxg hx
  | z :: P, _, ⟨u2, e, hb2, hs2, hn⟩, hf => by
    rw [List.cons_append, fpN_cons, foot_cons, foot_cons] at hf
    have hm : ∀ g ∈ [[nd.b], nd.s.g.toList], g ∈ FpN (P ++ nd :: R) := fun g hg => by
      rw [fpN_app, fpN_cons]
      simp only [List.mem_cons, List.not_mem_nil, or_false] at hg
      rcases hg with rfl | rfl
      · exact List.mem_append.2 (.inr (List.mem_cons_self ..))
      · exact List.mem_append.2 (.inr (List.mem_cons_of_mem _ (List.mem_cons_self ..)))
    refine ⟨u2, e, hb2.same (hk.block _ hb2.lt fun g hg hxg => ?_), hs2.keep fun x hx => hk.block x (hs2.lt_ x hx) fun g hg hxg => ?_, chN_upd hk hb hs hu hn hf.2.2⟩
    · exact hf.1 g (List.mem_cons_of_mem _ (hm g hg)) _ (List.mem_singleton.2 rfl) hxg
    · exact hf.2.1 g (hm g hg) x hx hxg
theorem foot_upd {lo : Nat} {w w' : World} {nd : Nd} {s' : Kd} {P R : List Nd} (hf : Foot (FpN (P ++ nd :: R))) (hw : Within lo w.heap.size (FpN (P ++ nd :: R))) (hg : s'.g = nd.s.g ∨ ∃ k, s'.g = some k ∧ w.heap.size ≤ k) (hl : ∀ x ∈ s'.g.toList, x < w'.heap.size) (hs : w.heap.size ≤ w'.heap.size) (hlo : lo ≤ w.heap.size) :
    Foot (FpN (P ++ (⟨nd.b, nd.ep, s'⟩ : Nd) :: R)) ∧ Within lo w'.heap.size (FpN (P ++ (⟨nd.b, nd.ep, s'⟩ : Nd) :: R)) := by
  rw [fpN_app, fpN_cons] at hf hw ⊢
  rcases hg with e | ⟨k, e, hk⟩
  · show Foot (FpN P ++ [nd.b] :: s'.g.toList :: FpN R) ∧ Within _ _ (FpN P ++ [nd.b] :: s'.g.toList :: FpN R)
    rw [e]
    exact ⟨hf, hw.mono (Nat.le_refl _) hs⟩
  · show Foot (FpN P ++ [nd.b] :: s'.g.toList :: FpN R) ∧ Within _ _ (FpN P ++ [nd.b] :: s'.g.toList :: FpN R)
    have hkl := hl k (by rw [e]; simp)
    rw [e]
    rw [foot_app, foot_cons, foot_cons] at hf ⊢
    have hP : ∀ f ∈ FpN P, ∀ x ∈ f, lo ≤ x ∧ x < w.heap.size := fun f h => hw f (List.mem_append.2 (.inl h))
    have hB : lo ≤ nd.b ∧ nd.b < w.heap.size := hw [nd.b] (List.mem_append.2 (.inr (List.mem_cons_self ..))) nd.b (List.mem_singleton.2 rfl)
    have hR : ∀ f ∈ FpN R, ∀ x ∈ f, lo ≤ x ∧ x < w.heap.size := fun f h => hw f (List.mem_append.2 (.inr (List.mem_cons_of_mem _ (List.mem_cons_of_mem _ h))))
    refine ⟨⟨hf.1, ⟨fun g hg x q1 q2 => ?_, fun g hg x q1 q2 => ?_, hf.2.1.2.2⟩, fun f hfm g hg x q1 q2 => ?_⟩, fun f hfm x hx => ?_⟩
    · rcases List.mem_cons.1 hg with rfl | hg
      · simp at q1 q2; omega
      · exact hf.2.1.1 g (List.mem_cons_of_mem _ hg) x q1 q2
    · have := hR g hg x q2
      simp at q1; omega
    · rcases List.mem_cons.1 hg with rfl | hg
      · exact hf.2.2 f hfm _ (List.mem_cons_self ..) x q1 q2
      · rcases List.mem_cons.1 hg with rfl | hg
        · have := hP f hfm x q1
          simp at q2; omega
        · exact hf.2.2 f hfm g (List.mem_cons_of_mem _ (List.mem_cons_of_mem _ hg)) x q1 q2
    · rcases List.mem_append.1 hfm with h | h
      · have := hP f h x hx; omega
      · rcases List.mem_cons.1 h with rfl | h
        · simp at hx; omega
        · rcases List.mem_cons.1 h with rfl | h
          · simp at hx; omega
          · have := hR f h x hx; omega
/-- A cache out of linked slots. -/
def OutC (lo : Nat) (c : Ch) (w : World) (e : Ending) (w' : World) : Prop :=
  ∃ A k G, e = .returned (.agg #[.int .i64 c.ep, .slice A c.sl.length k]) ∧ StsO w' A c.sl.length k c.sl G ∧ Within lo w'.heap.size G ∧ Below w.heap.size w w'
theorem cacheC (c : Ch) (a : Option Addr) (L : List Nd) (lo : Nat) (w : World) (hch : ChG lo w.heap.size w a L) (hl : L.length ≤ 1000) (hlo : lo ≤ w.heap.size) (he : lastE L = c.ep) (hs : (L.map fun nd => nd.s.xs) = c.sl) : Calls Try.prog 52 #[.pointer a] w (OutC lo c w) := by
  have h := cache a L lo w hch hl hlo
  rw [he, hs] at h
  exact h
set_option maxRecDepth 20000 in
set_option maxHeartbeats 2000000 in
theorem CacheKeys (c : Ch) (e : Int) (A : Option Addr) (n k lo hi : Nat) (w : World) (hx : Sts lo hi w A n k c.sl) :
    Calls Try.prog 21 #[.agg #[.int .i64 c.ep, .slice A n k], .int .i64 e] w (NewInts w (keysF c e)) := by
  have hk1 := hx.max_
  have hk2 := hx.cap_
  have HL := Lib.hid hx.len_
  unfold maxLen at hk1
  have h0 : Below w.heap.size w (w.alloc (.cells #[.int .i64 c.ep, .slice A n k] 26)) := (Below.refl _ _).alloc (Nat.le_refl _) _
  have HX := Lib.hid ((hx.top (Nat.zero_le _)).below h0 (Nat.le_refl _))
  have HB := Lib.hid h0
  have K0 := Lib.hid (blk_new w #[.int .i64 c.ep, .slice A n k] 26)
  clear hx h0
  cases hok : chOk c
  · have HV := Lib.hid (keys_no e hok)
    go_enter Try.func21, Try.ntmps21
    go_wp2_with fail
    ((with_reducible refine (CacheValid c _ _ _ _ _ _ HX.out).mono ?_); rintro e w1 ⟨rfl, hb1⟩)
    rw [hok]
    have HB1 := Lib.hid (HB.out.trans (hb1.mono HB.out.size))
    clear hb1 hok
    go_wp2
    go_ret
    rw [HV.out]
    exact newInts_nil (HB1.out.alloc HB1.out.size _)
  have HC := Lib.hid (chOk_iff.1 hok).2.1
  have HSM := Lib.hid (slot_small hok)
  have HOK := Lib.hid hok
  have HN3 : Hid (n = 3) := by show n = 3; rw [← HL.out]; exact (chOk_iff.1 hok).2.2
  obtain rfl := HN3.out
  go_enter Try.func21, Try.ntmps21
  go_wp2_with fail
  ((with_reducible refine (CacheValid c _ _ _ _ _ _ HX.out).mono ?_); rintro e w1 ⟨rfl, hb1⟩)
  rw [hok]
  obtain ⟨z0', z1', zf'⟩ := two_cells (K0.out.below hb1 (Nat.le_refl _))
  have HB1 := Lib.hid (HB.out.trans (hb1.mono HB.out.size))
  have HX1 := Lib.hid (HX.out.below hb1 (Nat.le_refl _))
  clear hb1 hok
  go_wp2_with fail
  ((with_reducible refine (oldestSlot c A k _ _ _ HX1.out HC.out HSM.out).mono ?_); rintro e w2 ⟨a, L, rfl, hch, hL, hb2⟩)
  have HB2 := Lib.hid (HB1.out.trans (hb2.mono HB1.out.size))
  have HCH := Lib.hid hch
  have HC1 := Lib.hid hch.1
  have HIX := Lib.hid (find_ix hL e)
  have hs1 := HB1.out.size
  clear hch hL hb2 z0' z1' zf'
  go_wp2_with fail
  ((with_reducible refine (find a L e _ HC1.out).mono ?_); rintro e w3 ⟨rfl, rfl⟩)
  rcases HIX.out with ⟨hs, hf⟩ | ⟨j, P, nd, R, hs, _, rfl, _, hf, hxs⟩
  · have HV := Lib.hid (keys_wrong HOK.out hs)
    rw [hf]
    clear hs hf
    go_wp2
    go_ret
    rw [HV.out]
    exact newInts_nil (HB2.out.alloc HB2.out.size _)
  · have HV := Lib.hid (keys_in HOK.out hs)
    obtain ⟨u, hb, hsk, _⟩ := chN_split HC1.out
    have HP : Hid (NewInts w nd.s.xs (.returned (.slice nd.s.A nd.s.xs.length nd.s.c)) w2) := ints_new (b := nd.s.g.getD 0) hsk.sk (fun y hy => by
      have := HCH.out.2.2 nd.s.g.toList (by rw [fpN_app, fpN_cons]; exact List.mem_append.2 (.inr (List.mem_cons_of_mem _ (List.mem_cons_self ..)))) y (fpk_sub hsk y hy)
      omega) HB2.out
    rw [hf]
    obtain ⟨c0, c1, c2, cf⟩ := nd_cells hb
    have HXS := Lib.hid hxs
    clear hs hf hb hsk HIX hxs
    go_wp2
    go_ret
    rw [HV.out, ← HXS.out]
    exact HP.out

set_option maxRecDepth 20000 in
set_option maxHeartbeats 2000000 in
theorem CacheTurn (c : Ch) (A : Option Addr) (n k lo hi : Nat) (w : World) (hx : Sts lo hi w A n k c.sl) :
    Calls Try.prog 28 #[.agg #[.int .i64 c.ep, .slice A n k]] w (CacheP (turnF c) (.bool (turnB c)) w) := by
  have hk1 := hx.max_
  have hk2 := hx.cap_
  have HL := Lib.hid hx.len_
  unfold maxLen at hk1
  obtain ⟨z0, z1, hs2, hb2⟩ := two_blocks w #[.int .i64 c.ep, .slice A n k] #[.int .i64 0, .slice none 0 0] 26 26
  have HX := Lib.hid ((hx.top (Nat.zero_le _)).below hb2 (Nat.le_refl _))
  have HB := Lib.hid hb2
  have K0 := Lib.hid z0
  have K1 := Lib.hid z1
  clear hx hb2 z0 z1 hs2
  cases hok : chOk c
  · have HV := Lib.hid (turn_no hok)
    go_enter Try.func28, Try.ntmps28
    go_wp2_with fail
    ((with_reducible refine (CacheValid c _ _ _ _ _ _ HX.out).mono ?_); rintro e w1 ⟨rfl, hb1⟩)
    rw [hok]
    have HB1 := Lib.hid (HB.out.trans (hb1.mono HB.out.size))
    obtain ⟨x0, x1, xf⟩ := two_cells (K1.out.below hb1 (Nat.le_refl _))
    clear hb1 hok
    go_wp2
    refine bodyPost_ret (v := .tuple #[.agg #[.int .i64 0, .slice none 0 0], .bool false]) ?_ rfl ?_
    · rw [results_cell_tmp rfl]
      go_simp
    · rw [HV.out.1, HV.out.2]
      exact cacheP_zero _ ((HB1.out.setCell (p := ⟨w.heap.size + 1, 0, none⟩) (show w.heap.size ≤ w.heap.size + 1 by omega) _).setCell (p := ⟨w.heap.size + 1, 1, none⟩) (show w.heap.size ≤ w.heap.size + 1 by omega) _)
  have HOK := Lib.hid hok
  have HC := Lib.hid (chOk_iff.1 hok).2.1
  have HL3 := Lib.hid (chOk_iff.1 hok).2.2
  have HSM := Lib.hid (slot_small hok)
  have HN3 : Hid (n = 3) := by show n = 3; rw [← HL.out]; exact HL3.out
  obtain rfl := HN3.out
  have hc0 := HC.out.1
  have hc1 := HC.out.2
  go_enter Try.func28, Try.ntmps28
  go_wp2_with fail
  ((with_reducible refine (CacheValid c _ _ _ _ _ _ HX.out).mono ?_); rintro e w1 ⟨rfl, hb1⟩)
  rw [hok]
  replace HB := Lib.hid (HB.out.trans (hb1.mono HB.out.size))
  replace K0 := Lib.hid (K0.out.below hb1 (Nat.le_refl _))
  replace K1 := Lib.hid (K1.out.below hb1 (Nat.le_refl _))
  replace HX := Lib.hid (HX.out.below hb1 (Nat.le_refl _))
  have hw1 : w.heap.size + 1 < w1.heap.size := K1.out.lt
  obtain ⟨z0, z1, zf⟩ := two_cells K0.out
  clear hb1 hok
  go_wp2_with fail
  ((with_reducible refine (oldestSlot c A k _ _ _ HX.out HC.out HSM.out).mono ?_); rintro e w2 ⟨a, L, rfl, hch, hL, hb2⟩)
  have hw2 := hb2.size
  replace HB := Lib.hid (HB.out.trans (hb2.mono HB.out.size))
  replace K0 := Lib.hid (K0.out.below hb2 (Nat.le_refl _))
  replace K1 := Lib.hid (K1.out.below hb2 (Nat.le_refl _))
  obtain ⟨n0, n1, n2, rfl, ⟨e0, e1, e2⟩, x0, x1, x2⟩ := three_nd hL
  have HCH := Lib.hid hch
  have HE := Lib.hid (And.intro e1 e2)
  have HXX := Lib.hid (And.intro x0 (And.intro x1 x2))
  clear hch hL hb2 z0 z1 zf e0 e1 e2 x0 x1 x2 HX
  obtain ⟨z0, z1, zf⟩ := two_cells K0.out
  by_cases h99 : c.ep < 99
  case neg =>
    have h99' : (c.ep == 99) = true := by simp; omega
    have HV := Lib.hid (turn_last HOK.out h99)
    have HLE : Hid (lastE [n0, n1, n2] = c.ep) := HE.out.2
    have HLS : Hid (([n0, n1, n2].map fun nd => nd.s.xs) = c.sl) := by
      show [n0.s.xs, n1.s.xs, n2.s.xs] = c.sl
      rw [HXX.out.1, HXX.out.2.1, HXX.out.2.2, ← three_sl HL3.out]
    go_wp2_with fail
    ((with_reducible refine (cacheC c a _ _ _ HCH.out (by simp) hw2 HLE.out HLS.out).mono ?_); rintro e w3 ⟨A9, k9, G, rfl, ho, hwG, hb3⟩)
    have HP := Lib.hid (cacheP_fin (v := .bool false) (w := w) (b := w.heap.size + 1) ho hwG (by omega) (by omega) (HB.out.trans (hb3.mono HB.out.size)) (.int .i64 c.ep) (.slice A9 c.sl.length k9))
    obtain ⟨x0, x1, xf⟩ := two_cells (K1.out.below hb3 (Nat.le_refl _))
    clear ho hwG hb3 z0 z1 zf
    rw [HL3.out] at HP ⊢
    go_wp2
    refine bodyPost_ret (v := .tuple #[.agg #[.int .i64 c.ep, .slice A9 3 k9], .bool false]) ?_ rfl ?_
    · rw [results_cell_tmp rfl]
      go_simp
    · rw [HV.out.1, HV.out.2]
      exact HP.out
  have h99' : (c.ep == 99) = false := by simp; omega
  have HV := Lib.hid (turn_yes HOK.out h99)
  have HLN : Hid (lastE [n1, n2] = c.ep) := HE.out.2
  have hln : -1000 ≤ lastE [n1, n2] ∧ lastE [n1, n2] ≤ 1000 := by rw [HLN.out]; omega
  go_wp2_with fail
  ((with_reducible refine (turned a n0 n1 [n2] w1.heap.size _ HCH.out hln hw2).mono ?_); rintro e w3 ⟨a3, L3, rfl, hch3, hL3, hb3⟩)
  have hw3 := hb3.size
  replace HB := Lib.hid (HB.out.trans (hb3.mono (by omega)))
  replace K1 := Lib.hid (K1.out.same (hb3.block _ hw1))
  have HLE : Hid (lastE L3 = (Ch.mk (c.ep + 1) (c.sl.drop 1 ++ [[]])).ep ∧ (L3.map fun nd => nd.s.xs) = (Ch.mk (c.ep + 1) (c.sl.drop 1 ++ [[]])).sl ∧ L3.length = 3) := by
    have q1 := congrArg (List.map Prod.fst) hL3
    have q2 := congrArg (List.map Prod.snd) hL3
    rw [List.map_map] at q1 q2
    have q3 := congrArg List.length q1
    refine ⟨?_, ?_, by simpa using q3⟩
    · rw [HLN.out] at q1
      have q4 := congrArg List.getLast? q1
      show (L3.getLast?.map (·.ep)).getD 0 = _
      have q5 : (L3.map (Prod.fst ∘ fun nd : Nd => (nd.ep, nd.s.xs))).getLast? = L3.getLast?.map (·.ep) := by rw [List.getLast?_map]; rfl
      rw [q5] at q4
      rw [q4]
      rfl
    · show (L3.map (Prod.snd ∘ fun nd : Nd => (nd.ep, nd.s.xs))) = _
      rw [q2]
      show [n1.s.xs, n2.s.xs, []] = _
      rw [HXX.out.2.1, HXX.out.2.2]
      conv => rhs; rw [three_sl HL3.out]
      rfl
  have HCH3 := Lib.hid hch3
  clear hch3 hL3 hb3 z0 z1 zf HCH hln
  go_wp2_with fail
  ((with_reducible refine (cacheC (Ch.mk (c.ep + 1) (c.sl.drop 1 ++ [[]])) a3 _ _ _ HCH3.out (by rw [HLE.out.2.2]; omega) (by omega) HLE.out.1 HLE.out.2.1).mono ?_); rintro e w4 ⟨A9, k9, G, rfl, ho, hwG, hb4⟩)
  have HP := Lib.hid (cacheP_fin (v := .bool true) (w := w) (b := w.heap.size + 1) ho hwG (by omega) (by omega) (HB.out.trans (hb4.mono HB.out.size)) (.int .i64 (c.ep + 1)) (.slice A9 (Ch.mk (c.ep + 1) (c.sl.drop 1 ++ [[]])).sl.length k9))
  have HL8 : Hid ((Ch.mk (c.ep + 1) (c.sl.drop 1 ++ [[]])).sl.length = 3) := by show (c.sl.drop 1 ++ [[]]).length = 3; simp [HL3.out]
  obtain ⟨x0, x1, xf⟩ := two_cells (K1.out.below hb4 (Nat.le_refl _))
  clear ho hwG hb4
  rw [HL8.out] at HP ⊢
  go_wp2
  refine bodyPost_ret (v := .tuple #[.agg #[.int .i64 (c.ep + 1), .slice A9 3 k9], .bool true]) ?_ rfl ?_
  · rw [results_cell_tmp rfl]
    go_simp
  · rw [HV.out.1, HV.out.2]
    exact HP.out

end Im8
end Go.Proofs.Ytmmnpmfkpieoiaa
