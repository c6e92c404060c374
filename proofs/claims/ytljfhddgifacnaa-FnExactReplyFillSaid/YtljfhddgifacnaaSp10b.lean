/-
  The contract of the model's ReplyFill.
-/
import Derived.Test.YtljfhddgifacnaaSp10
import Derived.BigRegion
import Derived.Laws.ResultCell
namespace Go.Proofs.Ytljfhddgifacnaa
open Go.RowKit
namespace Sp10
open Il Gm Mm Tm Lm Pm Pq Hlp5 Rm Cl Rp Sp2 Sp4 Sp5 Sl

/-- The packet of a reply in a block of its own, its header copied. -/
def MidF (w1 w' : World) (g : Nat) (el tag : Int) (hd : List Int) (A : Option Addr) (n c : Nat) (B : Option Addr) (m d b : Nat) : Prop :=
  Blk w' g #[.int .i64 el, .slice A n c, .int .i64 tag, .slice B m d] 39 ∧ Il.Own b (b + 1) w' A n c hd ∧ (0 < n → w1.heap.size ≤ b) ∧ w1.heap.size ≤ g ∧ Below w1.heap.size w1 w'
theorem own_zero {b n c : Nat} {w w' : World} {A : Option Addr} {xs : List Int} (h : Il.Own b (b + 1) w A n c xs) (hn : n = 0) : Il.Own b (b + 1) w' A n c xs := by
  subst hn
  exact ⟨⟨h.1.1, h.1.2.1, h.1.2.2.1, fun h => absurd h (by omega)⟩, fun _ _ h => absurd h (by omega)⟩
theorem midf_new {w1 w' : World} {el tag : Int} {hd : List Int} {A B : Option Addr} {n c m d b : Nat} (ho : Il.Own b (b + 1) w' A n c hd) (hb : 0 < n → w1.heap.size ≤ b) (hw : Below w1.heap.size w1 w') :
    MidF w1 (w'.alloc (.cells #[.int .i64 el, .slice A n c, .int .i64 tag, .slice B m d] 39)) w'.heap.size el tag hd A n c B m d b := by
  have h2 : Below w'.heap.size w' (w'.alloc (.cells #[.int .i64 el, .slice A n c, .int .i64 tag, .slice B m d] 39)) := (Below.refl _ _).alloc (Nat.le_refl _) _
  exact ⟨heap_alloc_new _ _, ho.below h2 (Nat.le_refl _), hb, hw.size, hw.trans (h2.mono hw.size)⟩
theorem midf_set {w1 w' : World} {el tag : Int} {hd : List Int} {A B : Option Addr} {n c m d b g : Nat} {u0 u1 u2 u3 : Value} (ho : Il.Own b (b + 1) w' A n c hd) (hb : 0 < n → w1.heap.size ≤ b) (hw : Below w1.heap.size w1 w')
    (hz : Blk w' g #[u0, u1, u2, u3] 39) (hg : w1.heap.size ≤ g) (hgb : 0 < n → g ≠ b) :
    MidF w1 ((((w'.setCell ⟨g, 0, none⟩ (.int .i64 el)).setCell ⟨g, 1, none⟩ (.slice A n c)).setCell ⟨g, 2, none⟩ (.int .i64 tag)).setCell ⟨g, 3, none⟩ (.slice B m d)) g el tag hd A n c B m d b := by
  obtain ⟨s1, s2, s3⟩ := set4 (v0 := .int .i64 el) (v1 := .slice A n c) (v2 := .int .i64 tag) (v3 := .slice B m d) hz
  refine ⟨s1, ?_, hb, hg, below03 hw hg _ _ _ _⟩
  rcases Nat.eq_zero_or_pos n with h0 | h0
  · exact own_zero ho h0
  · exact Il.Own.keep ho (Nat.le_of_eq s2.symm) fun x r1 r2 _ => far03b (by have := hgb h0; omega) _ _ _ _

theorem dest_at {g5 : Option Nat} {G n b5 : Nat} {W w5 : World} {v : Value} {xs : List Int} (hd : Dest 3 1 g5 w5 v n (xs.map (Value.int .i64))) (hk : ∀ k, g5 = some k → b5 = k) (hg : g5 = some G ∨ ∃ k, g5 = some k ∧ W.heap.size ≤ k) (hn : 0 < n) : b5 = G ∨ W.heap.size ≤ b5 := by
  obtain ⟨k, e, _⟩ := dest_blk hd hn
  have h1 := hk k e
  rcases hg with q | ⟨k', q, h2⟩
  · rw [q] at e; simp at e; omega
  · rw [q] at e; simp at e; omega
set_option maxRecDepth 20000 in
set_option maxHeartbeats 2000000 in
theorem ReplyFill (f el tag : Int) (hd ls : List Int) (A B : Option Addr) (n c m d l1 h1 l2 h2 : Nat) (w : World) (i1 : Ints l1 h1 w A n c hd) (hn : n ≤ 2000000) (i2 : Ints l2 h2 w B m d ls) :
    Calls Try.prog 25 #[.agg #[.int .i64 f, .int .i64 el, .slice A n c, .int .i64 tag], .slice B m d] w (PktPost (fillR f el hd tag ls) (fillOk f el hd tag ls) w) := by
  obtain ⟨zb0, zb1, hs2, hb2⟩ := two_blk w #[.int .i64 f, .int .i64 el, .slice A n c, .int .i64 tag] #[.int .i64 0, .slice none 0 0, .int .i64 0, .slice none 0 0] 27 39
  have I1 := Lib.hid (i1.below hb2 (Nat.le_refl _))
  have I2 := Lib.hid (i2.below hb2 (Nat.le_refl _))
  have Z0 := Lib.hid zb0
  have Z1 := Lib.hid zb1
  have HB := Lib.hid hb2
  have HL := Lib.hid i1.1
  clear i1 i2 zb0 zb1 hb2
  go_enter Try.func25, Try.ntmps25
  go_wp2_with fail
  generalize ((w.alloc (.cells #[.int .i64 f, .int .i64 el, .slice A n c, .int .i64 tag] 27)).alloc (.cells #[.int .i64 0, .slice none 0 0, .int .i64 0, .slice none 0 0] 39)) = w0 at *
  ((with_reducible refine (Sp4.LetterPack _ _ _ _ _ ls _ I2.out).mono ?_); rintro e w1 ⟨AL, cl, rfl, ol, hb1⟩)
  have OL := Lib.hid ol
  replace I1 := Lib.hid (I1.out.below hb1 (Nat.le_refl _))
  replace Z0 := Lib.hid (Z0.out.below hb1 (Nat.le_refl _))
  replace Z1 := Lib.hid (Z1.out.below hb1 (Nat.le_refl _))
  replace HB := Lib.hid (HB.out.trans (hb1.mono HB.out.size))
  have hs1 := hb1.size
  clear ol hb1 I2
  obtain ⟨p0, p1, p2, p3, pf⟩ := four_cells Z0.out
  have lz : w.heap.size < w1.heap.size := by omega
  have HS : Hid (∀ W', Below w1.heap.size w1 W' → (W'.cell? ⟨w.heap.size, 1, none⟩ = some (.int .i64 el) ∧ W'.cell? ⟨w.heap.size, 2, none⟩ = some (.slice A n c) ∧ W'.cell? ⟨w.heap.size, 3, none⟩ = some (.int .i64 tag))) := fun W' hb =>
    ⟨(hb.cell (p := ⟨w.heap.size, 1, none⟩) lz).trans p1, (hb.cell (p := ⟨w.heap.size, 2, none⟩) lz).trans p2, (hb.cell (p := ⟨w.heap.size, 3, none⟩) lz).trans p3⟩
  have DD : Hid (Below w1.heap.size w1 w1.drew) := below_dr (Below.refl _ _) 1
  have S0 := Lib.hid (HS.out w1.drew DD.out)
  clear p0 p1 p2 p3 pf
  have BA : Hid (Below w1.heap.size w1 (w1.alloc (.cells #[] 3)).drew) := below_dr ((Below.refl _ w1).alloc (Nat.le_refl _) _) 1
  have BZ : Hid (Below w1.heap.size w1 (w1.alloc (.cells #[.int .i64 0, .slice none 0 0, .int .i64 0, .slice none 0 0] 39)).drew) := below_dr ((Below.refl _ w1).alloc (Nat.le_refl _) _) 1
  have BB : Hid (Below w1.heap.size w1 ((w1.alloc (.cells #[.int .i64 0, .slice none 0 0, .int .i64 0, .slice none 0 0] 39)).alloc (.cells #[] 3)).drew) := below_dr (two_blk w1 _ _ _ _).2.2.2 1
  have BC : Hid (Below w1.heap.size w1 ((w1.alloc (.cells #[] 3)).alloc (.cells #[.int .i64 0, .slice none 0 0, .int .i64 0, .slice none 0 0] 39)).drew) := below_dr (two_blk w1 _ _ _ _).2.2.2 1
  have SA := Lib.hid (HS.out _ BA.out)
  have SZ := Lib.hid (HS.out _ BZ.out)
  have SB := Lib.hid (HS.out _ BB.out)
  have SC := Lib.hid (HS.out _ BC.out)
  have HDA : Hid (Dest 3 1 (some w1.heap.size) (w1.alloc (.cells #[] 3)).drew (.slice (some ⟨w1.heap.size, 0, none⟩) 0 0) 0 []) := .inr ⟨_, rfl, accV_new w1.drew _ _⟩
  have HDB : Hid (Dest 3 1 (some (w1.heap.size + 1)) ((w1.alloc (.cells #[.int .i64 0, .slice none 0 0, .int .i64 0, .slice none 0 0] 39)).alloc (.cells #[] 3)).drew (.slice (some ⟨w1.heap.size + 1, 0, none⟩) 0 0) 0 []) := by
    have h := accV_new (w1.alloc (.cells #[.int .i64 0, .slice none 0 0, .int .i64 0, .slice none 0 0] 39)).drew 3 1
    have e : (w1.alloc (.cells #[.int .i64 0, .slice none 0 0, .int .i64 0, .slice none 0 0] 39)).drew.heap.size = w1.heap.size + 1 := by simp
    rw [e] at h
    exact .inr ⟨_, rfl, h⟩
  have HDC : Hid (Dest 3 1 (some w1.heap.size) ((w1.alloc (.cells #[] 3)).alloc (.cells #[.int .i64 0, .slice none 0 0, .int .i64 0, .slice none 0 0] 39)).drew (.slice (some ⟨w1.heap.size, 0, none⟩) 0 0) 0 []) := .inr ⟨_, rfl, (accV_new w1.drew 3 1).block (by
    show ((w1.alloc (.cells #[] 3)).alloc (.cells #[.int .i64 0, .slice none 0 0, .int .i64 0, .slice none 0 0] 39)).heap[w1.heap.size]? = (w1.alloc (.cells #[] 3)).heap[w1.heap.size]?
    exact Below.heap_alloc _ _ _ (by simp))⟩
  have HRA := Lib.hid (ints_row (I1.out.below BA.out (Nat.le_refl _)))
  have HRB := Lib.hid (ints_row (I1.out.below BB.out (Nat.le_refl _)))
  have HRC := Lib.hid (ints_row (I1.out.below BC.out (Nat.le_refl _)))
  have ZB : Hid (Blk ((w1.alloc (.cells #[.int .i64 0, .slice none 0 0, .int .i64 0, .slice none 0 0] 39)).alloc (.cells #[] 3)).drew w1.heap.size #[.int .i64 0, .slice none 0 0, .int .i64 0, .slice none 0 0] 39) := (two_blk w1 _ _ _ _).1
  have ZC : Hid (Blk ((w1.alloc (.cells #[] 3)).alloc (.cells #[.int .i64 0, .slice none 0 0, .int .i64 0, .slice none 0 0] 39)).drew (w1.heap.size + 1) #[.int .i64 0, .slice none 0 0, .int .i64 0, .slice none 0 0] 39) := (two_blk w1 _ _ _ _).2.1
  have HWA : Hid ((w1.alloc (.cells #[] 3)).drew.heap.size = w1.heap.size + 1) := by show (w1.alloc (.cells #[] 3)).heap.size = _; simp
  have HWB : Hid (((w1.alloc (.cells #[.int .i64 0, .slice none 0 0, .int .i64 0, .slice none 0 0] 39)).alloc (.cells #[] 3)).drew.heap.size = w1.heap.size + 2) := (two_blk w1 _ _ _ _).2.2.1
  have HWC : Hid (((w1.alloc (.cells #[] 3)).alloc (.cells #[.int .i64 0, .slice none 0 0, .int .i64 0, .slice none 0 0] 39)).drew.heap.size = w1.heap.size + 2) := (two_blk w1 _ _ _ _).2.2.1
  have HN1 : Hid (w.heap.size ≠ w1.heap.size) := by show _ ≠ _; omega
  have HN2 : Hid (w.heap.size ≠ w1.heap.size + 1) := by show _ ≠ _; omega
  go_upto_region 2 with (fail)
  go_region_held3 (fun w' => w'.cell? ⟨w.heap.size, 1, none⟩ = some (.int .i64 el) ∧ w'.cell? ⟨w.heap.size, 2, none⟩ = some (.slice A n c) ∧ w'.cell? ⟨w.heap.size, 3, none⟩ = some (.int .i64 tag))
    (first | with_reducible exact S0.out | with_reducible exact SA.out | with_reducible exact SZ.out | with_reducible exact SB.out | with_reducible exact SC.out | with_reducible exact s8 | with_reducible exact HS.out _ (hb5.alloc hb5.size _) | with_reducible exact ⟨(far03 HN1.out _ _ _ _).trans s8.1, (far03 HN1.out _ _ _ _).trans s8.2.1, (far03 HN1.out _ _ _ _).trans s8.2.2⟩ | with_reducible exact ⟨(far03 HN2.out _ _ _ _).trans s8.1, (far03 HN2.out _ _ _ _).trans s8.2.1, (far03 HN2.out _ _ _ _).trans s8.2.2⟩ | (trace_state; fail))
    (first
    | (refine step_appDL elInt _ _ _ _ _ HDA.out _ _ _ _ _ _ HRA.out (ints_one_cell _) (by omega) (.tmp 16) (.tmp 18) rfl rfl (by go_simp) (by go_simp) ?_; intro g5 v5 w5 hd5 hg5 hgr5; rw [List.nil_append, Nat.zero_add] at hd5; obtain ⟨A5, c5, b5, rfl, ho5, hk5⟩ := dest_ints hd5; have hb5 : Below w1.heap.size w1 w5 := BA.out.grown hgr5 BA.out.size (fun k hk => by simp at hk; omega); have s8 := HS.out w5 hb5; have hnb := dest_at hd5 hk5 hg5; have hsw : (w1.alloc (.cells #[] 3)).drew.heap.size = _ := HWA.out; have HG : Hid (MidF w1 (w5.alloc (.cells #[.int .i64 el, .slice A5 n c5, .int .i64 tag, .slice AL (packF ls).length cl] 39)) w5.heap.size el tag hd A5 n c5 AL (packF ls).length cl b5) := midf_new ho5 (fun h => by have := hnb h; omega) hb5)
    | (refine step_appDL elInt _ _ _ _ _ HDB.out _ _ _ _ _ _ HRB.out (ints_one_cell _) (by omega) (.tmp 16) (.tmp 18) rfl rfl (by go_simp) (by go_simp) ?_; intro g5 v5 w5 hd5 hg5 hgr5; rw [List.nil_append, Nat.zero_add] at hd5; obtain ⟨A5, c5, b5, rfl, ho5, hk5⟩ := dest_ints hd5; have hb5 : Below w1.heap.size w1 w5 := BB.out.grown hgr5 BB.out.size (fun k hk => by simp at hk; omega); have s8 := HS.out w5 hb5; have hnb := dest_at hd5 hk5 hg5; have hsw : ((w1.alloc (.cells #[.int .i64 0, .slice none 0 0, .int .i64 0, .slice none 0 0] 39)).alloc (.cells #[] 3)).drew.heap.size = _ := HWB.out; have hz5 : Blk w5 w1.heap.size #[.int .i64 0, .slice none 0 0, .int .i64 0, .slice none 0 0] 39 := (hgr5.block w1.heap.size (by rw [hsw]; omega) (by simp)).trans ZB.out; obtain ⟨r0, r1, r2, r3, rf⟩ := four_cells hz5; have HG : Hid (MidF w1 ((((w5.setCell ⟨w1.heap.size, 0, none⟩ (.int .i64 el)).setCell ⟨w1.heap.size, 1, none⟩ (.slice A5 n c5)).setCell ⟨w1.heap.size, 2, none⟩ (.int .i64 tag)).setCell ⟨w1.heap.size, 3, none⟩ (.slice AL (packF ls).length cl)) w1.heap.size el tag hd A5 n c5 AL (packF ls).length cl b5) := midf_set ho5 (fun h => by have := hnb h; omega) hb5 hz5 (by omega) (fun h => by have := hnb h; omega))
    | (refine step_appDL elInt _ _ _ _ _ HDC.out _ _ _ _ _ _ HRC.out (ints_one_cell _) (by omega) (.tmp 16) (.tmp 18) rfl rfl (by go_simp) (by go_simp) ?_; intro g5 v5 w5 hd5 hg5 hgr5; rw [List.nil_append, Nat.zero_add] at hd5; obtain ⟨A5, c5, b5, rfl, ho5, hk5⟩ := dest_ints hd5; have hb5 : Below w1.heap.size w1 w5 := BC.out.grown hgr5 BC.out.size (fun k hk => by simp at hk; omega); have s8 := HS.out w5 hb5; have hnb := dest_at hd5 hk5 hg5; have hsw : ((w1.alloc (.cells #[] 3)).alloc (.cells #[.int .i64 0, .slice none 0 0, .int .i64 0, .slice none 0 0] 39)).drew.heap.size = _ := HWC.out; have hz5 : Blk w5 (w1.heap.size + 1) #[.int .i64 0, .slice none 0 0, .int .i64 0, .slice none 0 0] 39 := (hgr5.block (w1.heap.size + 1) (by rw [hsw]; omega) (by simp)).trans ZC.out; obtain ⟨r0, r1, r2, r3, rf⟩ := four_cells hz5; have HG : Hid (MidF w1 ((((w5.setCell ⟨(w1.heap.size + 1), 0, none⟩ (.int .i64 el)).setCell ⟨(w1.heap.size + 1), 1, none⟩ (.slice A5 n c5)).setCell ⟨(w1.heap.size + 1), 2, none⟩ (.int .i64 tag)).setCell ⟨(w1.heap.size + 1), 3, none⟩ (.slice AL (packF ls).length cl)) (w1.heap.size + 1) el tag hd A5 n c5 AL (packF ls).length cl b5) := midf_set ho5 (fun h => by have := hnb h; omega) hb5 hz5 (by omega) (fun h => by have := hnb h; omega))
    | fail)
  all_goals
    clear s8 hd5 hg5 hgr5 hb5 ho5 hk5 hnb hsw
    first
    | (have hmk : Hid (MidF w1 (w5.alloc (.cells #[.int .i64 el, .slice A5 n c5, .int .i64 tag, .slice AL (packF ls).length cl] 39)) w5.heap.size el tag hd A5 n c5 AL (packF ls).length cl b5) := by with_reducible exact HG
       clear hmk; generalize (w5.alloc (.cells #[.int .i64 el, .slice A5 n c5, .int .i64 tag, .slice AL (packF ls).length cl] 39)) = w6 at HG ⊢; generalize w5.heap.size = gg at HG ⊢)
    | (have hmk : Hid (MidF w1 ((((w5.setCell ⟨w1.heap.size, 0, none⟩ (.int .i64 el)).setCell ⟨w1.heap.size, 1, none⟩ (.slice A5 n c5)).setCell ⟨w1.heap.size, 2, none⟩ (.int .i64 tag)).setCell ⟨w1.heap.size, 3, none⟩ (.slice AL (packF ls).length cl)) w1.heap.size el tag hd A5 n c5 AL (packF ls).length cl b5) := by with_reducible exact HG
       clear hmk; generalize ((((w5.setCell ⟨w1.heap.size, 0, none⟩ (.int .i64 el)).setCell ⟨w1.heap.size, 1, none⟩ (.slice A5 n c5)).setCell ⟨w1.heap.size, 2, none⟩ (.int .i64 tag)).setCell ⟨w1.heap.size, 3, none⟩ (.slice AL (packF ls).length cl)) = w6 at HG ⊢; generalize w1.heap.size = gg at HG ⊢)
    | (have hmk : Hid (MidF w1 ((((w5.setCell ⟨(w1.heap.size + 1), 0, none⟩ (.int .i64 el)).setCell ⟨(w1.heap.size + 1), 1, none⟩ (.slice A5 n c5)).setCell ⟨(w1.heap.size + 1), 2, none⟩ (.int .i64 tag)).setCell ⟨(w1.heap.size + 1), 3, none⟩ (.slice AL (packF ls).length cl)) (w1.heap.size + 1) el tag hd A5 n c5 AL (packF ls).length cl b5) := by with_reducible exact HG
       clear hmk; generalize ((((w5.setCell ⟨(w1.heap.size + 1), 0, none⟩ (.int .i64 el)).setCell ⟨(w1.heap.size + 1), 1, none⟩ (.slice A5 n c5)).setCell ⟨(w1.heap.size + 1), 2, none⟩ (.int .i64 tag)).setCell ⟨(w1.heap.size + 1), 3, none⟩ (.slice AL (packF ls).length cl)) = w6 at HG ⊢; generalize (w1.heap.size + 1) = gg at HG ⊢)
    have OL6 := Lib.hid (OL.out.below HG.out.2.2.2.2 (Nat.le_refl _))
    have Z06 := Lib.hid (Z0.out.below HG.out.2.2.2.2 (Nat.le_refl _))
    have Z16 := Lib.hid (Z1.out.below HG.out.2.2.2.2 (Nat.le_refl _))
    have HB6 := Lib.hid (HB.out.trans (HG.out.2.2.2.2.mono HB.out.size))
    have ZP6 := Lib.hid HG.out.1
    have OH6 := Lib.hid HG.out.2.1
    have HR6 := Lib.hid HG.out.2.2.1
    have hgg := HG.out.2.2.2.1
    have hs6 := HG.out.2.2.2.2.size
    obtain rfl : hd.length = n := HL.out
    clear HG
    cases hq : packOk ls
    · have HV : Hid (fillOk f el hd tag ls = false) := by show _ = _; simp [fillOk, hq]
      obtain ⟨r0, r1, r2, r3, rf⟩ := four_cells Z16.out
      clear hq
      go_wp2
      refine bodyPost_ret (v := .tuple #[.agg #[.int .i64 0, .slice none 0 0, .int .i64 0, .slice none 0 0], .bool false]) ?_ rfl (fill_no HV.out ?_)
      · rw [results_cell_tmp rfl]
        go_simp
      · exact below03 HB6.out (by omega) _ _ _ _
    have HQ := Lib.hid hq
    clear hq
    obtain ⟨q0, q1, q2, q3, qf⟩ := four_cells Z06.out
    cases hi : inName f
    · have HV : Hid (fillOk f el hd tag ls = false) := by show _ = _; simp [fillOk, hi]
      go_wp2_with fail
      ((with_reducible refine (l6In f 0 7 _).mono ?_); rintro e w' ⟨rfl, rfl⟩)
      rw [show decide (0 ≤ f ∧ f ≤ 7) = _ from hi]
      clear hi q0 q1 q2 q3 qf
      obtain ⟨r0, r1, r2, r3, rf⟩ := four_cells Z16.out
      go_wp2
      refine bodyPost_ret (v := .tuple #[.agg #[.int .i64 0, .slice none 0 0, .int .i64 0, .slice none 0 0], .bool false]) ?_ rfl (fill_no HV.out ?_)
      · rw [results_cell_tmp rfl]
        go_simp
      · exact below03 HB6.out (by omega) _ _ _ _
    have HI := Lib.hid hi
    go_wp2_with fail
    ((with_reducible refine (l6In f 0 7 _).mono ?_); rintro e w' ⟨rfl, rfl⟩)
    rw [show decide (0 ≤ f ∧ f ≤ 7) = _ from hi]
    clear hi q0 q1 q2 q3 qf
    obtain ⟨q0, q1, q2, q3, qf⟩ := four_cells ZP6.out
    go_wp2_with fail
    ((with_reducible refine (Sp5.PacketValid _ _ _ _ _ _ _ _ _ _ el tag hd (packF ls) _ OH6.out.ints OL6.out.ints).mono ?_); rintro e w7 ⟨rfl, hb7⟩)
    replace OL6 := Lib.hid (OL6.out.below hb7 (Nat.le_refl _))
    replace OH6 := Lib.hid (OH6.out.below hb7 (Nat.le_refl _))
    replace Z16 := Lib.hid (Z16.out.below hb7 (Nat.le_refl _))
    replace ZP6 := Lib.hid (ZP6.out.below hb7 (Nat.le_refl _))
    replace HB6 := Lib.hid (HB6.out.trans (hb7.mono HB6.out.size))
    have hs7 := hb7.size
    clear hb7 q0 q1 q2 q3 qf
    obtain ⟨r0, r1, r2, r3, rf⟩ := four_cells Z16.out
    obtain ⟨q0, q1, q2, q3, qf⟩ := four_cells ZP6.out
    have HE : Hid (fillOk f el hd tag ls = pktOk ⟨el, hd, tag, packF ls⟩) := by show _ = _; simp [fillOk, HQ.out, HI.out, packF_yes HQ.out]
    cases hp : pktOk ⟨el, hd, tag, packF ls⟩
    · have HV : Hid (fillOk f el hd tag ls = false) := HE.out.trans hp
      clear hp
      go_wp2
      refine bodyPost_ret (v := .tuple #[.agg #[.int .i64 0, .slice none 0 0, .int .i64 0, .slice none 0 0], .bool false]) ?_ rfl (fill_no HV.out ?_)
      · rw [results_cell_tmp rfl]
        go_simp
      · exact below03 HB6.out (by omega) _ _ _ _
    · have HV : Hid (fillOk f el hd tag ls = true) := HE.out.trans hp
      have h9 : 0 < hd.length := by have := (pktOk_iff.1 hp).2.2.1; dsimp only at this; omega
      have HR := Lib.hid (HR6.out h9)
      clear hp h9
      go_wp2
      refine bodyPost_ret (v := .tuple #[.agg #[.int .i64 el, .slice A5 hd.length c5, .int .i64 tag, .slice AL (packF ls).length cl], .bool true]) ?_ rfl (fill_yes HV.out OH6.out OL6.out ?_ ?_ ?_ HB6.out)
      · rw [results_cell_tmp rfl]
        go_simp
      · exact HR.out
      · omega
      · omega

end Sp10
end Go.Proofs.Ytljfhddgifacnaa
