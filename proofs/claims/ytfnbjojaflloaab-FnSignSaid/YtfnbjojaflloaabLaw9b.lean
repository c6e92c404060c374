/-
  Laws of chapter 21: each returns true and writes nothing that was there.
-/
import Derived.Test.YtfnbjojaflloaabLaw9p
namespace Go.Proofs.Ytfnbjojaflloaab
open Go.RowKit
namespace Law9
open Il Sl Cm Ec Dm Sp9 Gm H9 LawB Rd Sg


/-! ### signatures of three authorities -/
def secF (n : Nat) (i : Nat) : Int := 1 + ((n : Int) * 7 + (i : Int) * 131) % 996
theorem secF_in (n i : Nat) : inG (secF n i) = true := by
  unfold secF
  exact inG_iff.2 (by omega)
def pubsT (n t : Nat) : List Int := (List.range t).map fun i => mulG (secF n i) 5
def sigsT (n : Nat) (ep : Int) (es : List En) (t : Nat) : List Int := (List.range t).map fun i => signF (secF n i) ep es
theorem pubsT_len (n t : Nat) : (pubsT n t).length = t := by simp [pubsT]
theorem sigsT_len (n : Nat) (ep : Int) (es : List En) (t : Nat) : (sigsT n ep es t).length = t := by simp [sigsT]
theorem pubsT_succ (n t : Nat) : pubsT n (t + 1) = pubsT n t ++ [mulG (secF n t) 5] := by unfold pubsT; rw [List.range_succ, List.map_append]; rfl
theorem sigsT_succ (n : Nat) (ep : Int) (es : List En) (t : Nat) : sigsT n ep es (t + 1) = sigsT n ep es t ++ [signF (secF n t) ep es] := by unfold sigsT; rw [List.range_succ, List.map_append]; rfl
theorem pubs_at (n : Nat) {i : Nat} (h : i < 3) : (pubsT n 3).getD i 0 = mulG (secF n i) 5 := by
  match i, h with
  | 0, _ => rfl
  | 1, _ => rfl
  | 2, _ => rfl
theorem sigs_at (n : Nat) (ep : Int) (es : List En) {i : Nat} (h : i < 3) : (sigsT n ep es 3).getD i 0 = signF (secF n i) ep es := by
  match i, h with
  | 0, _ => rfl
  | 1, _ => rfl
  | 2, _ => rfl
theorem signF_bd (s ep : Int) (es : List En) : 0 ≤ signF s ep es ∧ signF s ep es ≤ 996 := by
  rw [← Im9.sign_is]; exact mulG_bd _ _
theorem sign_r (n : Nat) {ep : Int} {es : List En} (hd : dirOk ep es = true) {i : Nat} (h : i < 3) : rightB ((pubsT n 3).getD i 0) ((sigsT n ep es 3).getD i 0) (digL ep es) = true := by
  rw [pubs_at n h, sigs_at n ep es h]
  exact sign_right (secF_in n i) hd
theorem sign_all {ep : Int} {es : List En} (hd : dirOk ep es = true) (n : Nat) : checkF (pubsT n 3) ep es (sigsT n ep es 3) = true := by
  refine checkF_iff.2 ⟨hd, pubsT_len _ _, sigsT_len _ _ _ _, partsOk_iff.2 fun i hi => ?_, ?_⟩
  · rw [pubs_at n hi, sigs_at n ep es hi]
    exact ⟨mulG_pos (secF_in n i) five_in, signF_bd _ _ _⟩
  · rw [rights_three, sign_r n hd (by omega), sign_r n hd (by omega), sign_r n hd (by omega)]
    decide
theorem set_zero {xs : List Int} {i r : Nat} : (xs.set r 0).getD i 0 = if i = r then 0 else xs.getD i 0 := by
  rw [List.getD_eq_getElem?_getD, List.getD_eq_getElem?_getD]
  by_cases h : i = r
  · subst h
    rw [if_pos rfl]
    by_cases hi : i < xs.length
    · rw [List.getElem?_set_self hi]; rfl
    · rw [List.getElem?_eq_none (by rw [List.length_set]; omega)]; rfl
  · rw [if_neg h, List.getElem?_set_ne (Ne.symm h)]
theorem sign_two {ep : Int} {es : List En} (hd : dirOk ep es = true) (n : Nat) {r : Nat} (hr : r < 3) : checkF (pubsT n 3) ep es ((sigsT n ep es 3).set r 0) = true := by
  refine checkF_iff.2 ⟨hd, pubsT_len _ _, by rw [List.length_set]; exact sigsT_len _ _ _ _, partsOk_iff.2 fun i hi => ?_, ?_⟩
  · rw [pubs_at n hi, set_zero, sigs_at n ep es hi]
    refine ⟨mulG_pos (secF_in n i) five_in, ?_⟩
    split
    · exact ⟨Int.le_refl _, by decide⟩
    · exact signF_bd _ _ _
  · have key : ∀ i, i < 3 → i ≠ r → cnt (rightB ((pubsT n 3).getD i 0) (((sigsT n ep es 3).set r 0).getD i 0) (digL ep es)) = 1 := fun i hi hne => by
      rw [set_zero, if_neg hne, sign_r n hd hi]; rfl
    rw [rights_three]
    have c0 := key 0 (by omega)
    have c1 := key 1 (by omega)
    have c2 := key 2 (by omega)
    match r, hr with
    | 0, _ => have := c1 (by omega); have := c2 (by omega); omega
    | 1, _ => have := c0 (by omega); have := c2 (by omega); omega
    | 2, _ => have := c0 (by omega); have := c1 (by omega); omega
/-- While keys and signatures are gathered beside the directory. -/
def SgRel (bd gB : Nat) (w wr : World) (ep : Int) (A : Option Addr) (k : Nat) (es : List En) (v8 v9 : Value) (ps gs : List Int) : Prop :=
  ∃ g1 g2, AccB g1 wr v8 ps ∧ AccB g2 wr v9 gs ∧ g1 ≠ g2 ∧ gB ≤ g1 ∧ gB ≤ g2 ∧ DBox wr bd ep A es.length k ∧ Ens 0 gB wr A es.length k es ∧ Below w.heap.size w wr ∧ bd < gB ∧ w.heap.size ≤ gB
theorem sg_new {w c : World} {bd lo n1 : Nat} {ep : Int} {A : Option Addr} {k : Nat} {es : List En} (h1 : DBox c bd ep A es.length k) (h2 : Ens lo c.heap.size c A es.length k es) (h3 : Below w.heap.size w c) :
    SgRel bd c.heap.size w ((c.alloc (.cells #[] 3)).alloc (.cells #[] 3)) ep A k es (.slice (some ⟨c.heap.size, 0, none⟩) 0 0) (.slice (some ⟨c.heap.size + 1, 0, none⟩) 0 0) (pubsT n1 0) (sigsT n1 ep es 0) := by
  have hal : Below c.heap.size c (c.alloc (.cells #[] 3)) := (Below.refl _ _).alloc (Nat.le_refl _) _
  have hs : (c.alloc (.cells #[] 3)).heap.size = c.heap.size + 1 := by simp
  have hal2 : Below c.heap.size c ((c.alloc (.cells #[] 3)).alloc (.cells #[] 3)) := hal.alloc (by omega) _
  have a2 := accB_new (c.alloc (.cells #[] 3))
  rw [hs] at a2
  exact ⟨c.heap.size, c.heap.size + 1, (accB_new c).alloc _, a2, by omega, Nat.le_refl _, by omega, h1.below hal2 (Nat.le_refl _), (h2.mono (Nat.zero_le _) (Nat.le_refl _)).below hal2 (Nat.le_refl _), h3.trans (hal2.mono h3.size), h1.lt, h3.size⟩
theorem signI9 {s ep x : Int} {es : List En} {A : Option Addr} {k lo hi : Nat} {w : World} (h : signF s ep es = x) (hx : Ens lo hi w A es.length k es) : Calls Try.prog 27 #[.int .i64 s, .agg #[.int .i64 ep, .slice A es.length k]] w (IntB x w) := by
  subst h
  exact Im9.DirectorySign s ep es A _ k lo hi w hx
set_option maxRecDepth 20000 in
set_option maxHeartbeats 4000000 in
theorem fnSign (A : Option Addr) (n c : Nat) (A1 : Option Addr) (n1 c1 : Nat) (w : World) (h : CodeIs w A n c) :
    Calls Try.prog 6 #[.slice A n c, .slice A1 n1 c1] w (TruePost w) := by
  have HC := Lib.hid h
  clear h
  by_cases hn : 1048576 < n
  · go_enter Try.func6, Try.ntmps6
    go_wp2
    go_ret
    exact ⟨rfl, Below.refl _ _⟩
  by_cases hn1 : 1048576 < n1
  · go_enter Try.func6, Try.ntmps6
    go_wp2
    go_ret
    exact ⟨rfl, Below.refl _ _⟩
  have B : Hid (Below w.heap.size w w) := Below.refl _ _
  go_enter Try.func6, Try.ntmps6
  go_wp2_with fail
  ((with_reducible refine (DrawDirectoryDigest _ _ _ _ HC.out).mono ?_); rintro e w1 ⟨A0, k0, ep, es, rfl, hgd, hds, hb⟩)
  replace B := Lib.hid (B.out.trans (hb.mono B.out.size))
  have z1 := hb.size
  have R0 := Lib.hid hds.row_
  have GD := Lib.hid hgd
  clear hgd hds HC
  clear hb
  have hal : Below w1.heap.size w1 (w1.alloc (.cells #[.int .i64 ep, .slice A0 es.length k0] 40)) := (Below.refl _ _).alloc (Nat.le_refl _) _
  have V0 := Lib.hid (vd_new (ep := ep) (lo' := w.heap.size) R0.out (Nat.le_refl _) B.out.size)
  replace B := Lib.hid (B.out.trans (hal.mono B.out.size))
  have zzV0 := hal.size
  clear hal
  clear R0
  obtain ⟨x, HX⟩ : ∃ x, Hid (digF ep es = x) := ⟨_, rfl⟩
  obtain ⟨V00, V01, V0f⟩ := V0.out.1.cells
  go_wp2_with fail
  ((with_reducible refine (digI HX.out V0.out.st).mono ?_); rintro e w2 ⟨rfl, hb⟩)
  replace V0 := Lib.hid (V0.out.below hb (Nat.le_refl _))
  replace B := Lib.hid (B.out.trans (hb.mono B.out.size))
  have z2 := hb.size
  clear V00 V01 V0f hb
  obtain ⟨V00, V01, V0f⟩ := V0.out.1.cells
  go_wp2_with fail
  ((with_reducible refine (digS HX.out V0.out.st).mono ?_); rintro e w3 ⟨rfl, hb⟩)
  replace V0 := Lib.hid (V0.out.below hb (Nat.le_refl _))
  replace B := Lib.hid (B.out.trans (hb.mono B.out.size))
  have z3 := hb.size
  clear V00 V01 V0f hb
  have e0 : (x != x) = false := by simp
  have e1 : (x == x) = true := by simp
  by_cases hx0 : x < 0
  · go_wp2
    go_ret
    exact ⟨rfl, B.out⟩
  have hx0d : decide (x < 0) = false := by simp; omega
  have HD := Lib.hid (digF_ok (show 0 ≤ digF ep es by rw [HX.out]; omega))
  have hn1 : n1 ≤ 1048576 := by omega
  clear HX GD hx0
  have hR0 : SgRel w1.heap.size w3.heap.size w ((w3.alloc (.cells #[] 3)).alloc (.cells #[] 3)) ep A0 k0 es (.slice (some ⟨w3.heap.size, 0, none⟩) 0 0) (.slice (some ⟨w3.heap.size + 1, 0, none⟩) 0 0) (pubsT n1 0) (sigsT n1 ep es 0) := sg_new V0.out.1 V0.out.st B.out
  have HR0 := Lib.hid hR0
  clear hR0
  obtain ⟨V00, V01, V0f⟩ := V0.out.1.cells
  go_wp2
  clear V00 V01 V0f V0 B
  generalize w3.heap.size = gB at *
  go_loopw [8, 9, 10, 11] (fun v8 v9 i _ wr => ∃ t : Nat, t ≤ 3 ∧ i = .int .i64 t ∧ Hid (SgRel w1.heap.size gB w wr ep A0 k0 es v8 v9 (pubsT n1 t) (sigsT n1 ep es t))) (fun _ _ i _ _ => 3 - (intOf i).toNat)
  case atStart => exact ⟨0, Nat.zero_le _, rfl, HR0.out⟩
  case round =>
    obtain ⟨t, ht, rfl, hR⟩ := hrel
    clear HR0
    obtain ⟨g1, g2, a1, a2, hne, hg1, hg2, hbx, hen, hbl, hbd, hwg⟩ := hR.out
    clear hR
    by_cases hlt : t < 3
    · have hF : 1 + ((n1 : Int) * 7 + (t : Int) * 131) % 996 = secF n1 t := rfl
      have HP := Lib.hid (pubsT_succ n1 t)
      have HS := Lib.hid (sigsT_succ n1 ep es t)
      have hpl : (pubsT n1 t).length ≤ 3 := by rw [pubsT_len]; omega
      have hsl : (sigsT n1 ep es t).length ≤ 3 := by rw [sigsT_len]; omega
      have A1 := Lib.hid a1
      have A2 := Lib.hid a2
      have BX := Lib.hid hbx
      have EN := Lib.hid hen
      have BL := Lib.hid hbl
      clear a1 a2 hbx hen hbl
      go_wp2_with fail
      ((with_reducible refine (Grp.element ((n1 : Int) * 7 + (t : Int) * 131) _ (by omega) (by omega)).mono ?_); rintro e w5 ⟨rfl, rfl⟩)
      rw [hF]
      generalize secF n1 t = sv at *
      generalize pubsT n1 t = ps at *
      generalize sigsT n1 ep es t = gs at *
      clear hF
      go_wp2_with fail
      ((with_reducible refine (Grp.iPublic sv _).mono ?_); rintro e w5 ⟨rfl, rfl⟩)
      go_upto_region 15 with (at_builtin; refine wpList_app1B g1 wr _ ps (mulG sv 5) A1.out (by omega) (.tmp 52) (.tmp 55) rfl rfl (by go_simp) (by go_simp) ?_; intro g3 v8 w6 hN6 hW6 hG6)
      have A26 := Lib.hid (A2.out.keep hG6 (by simp; omega))
      have BX6 := Lib.hid (show DBox w6 _ _ _ _ _ from (hG6.block _ BX.out.lt (by simp; omega)).trans BX.out)
      have EN6 := Lib.hid (EN.out.grown hG6 fun q hq => by cases hq; exact .inr hg1)
      have BL6 := Lib.hid (BL.out.grown hG6 BL.out.size fun q hq => by cases hq; omega)
      have A16 := Lib.hid hN6
      have h26 := A2.out.lt
      have h16 := A1.out.lt
      have hz6 := hG6.size
      clear A1 A2 BX EN BL hN6 hG6
      obtain ⟨y0, y1, yf⟩ := BX6.out.cells
      go_wp2_with fail
      ((with_reducible refine (signI9 rfl EN6.out).mono ?_); rintro e w7 ⟨rfl, hb7⟩)
      have A27 := Lib.hid (AccB.below_ A26.out hb7 (Nat.le_refl _))
      have A17 := Lib.hid (AccB.below_ A16.out hb7 (Nat.le_refl _))
      have BX7 := Lib.hid (BX6.out.below hb7 (Nat.le_refl _))
      have EN7 := Lib.hid (EN6.out.below hb7 (Nat.le_refl _))
      have BL7 := Lib.hid (BL6.out.trans (hb7.mono BL6.out.size))
      have hz7 := hb7.size
      clear A16 A26 BX6 EN6 BL6 hb7 y0 y1 yf
      generalize signF sv ep es = sg at *
      go_wp2_with (at_builtin; refine wpList_app1B g2 w7 _ gs sg A27.out (by omega) (.tmp 57) (.tmp 61) rfl rfl (by go_simp) (by go_simp) ?_; intro g4 v9 w8 hN8 hW8 hG8)
      have hl17 := A17.out.lt
      have HF : Hid (SgRel w1.heap.size gB w w8 ep A0 k0 es v8 v9 (ps ++ [mulG sv 5]) (gs ++ [sg])) :=
        ⟨g3, g4, A17.out.keep hG8 (by simp; omega), hN8, by omega, by omega, by omega, (hG8.block _ BX7.out.lt (by simp; omega)).trans BX7.out, EN7.out.grown hG8 fun q hq => by cases hq; exact .inr hg2, BL7.out.grown hG8 BL7.out.size fun q hq => by cases hq; omega, hbd, hwg⟩
      clear A17 A27 BX7 EN7 BL7 hN8 hG8
      go_roundw
      case rel => exact ⟨t + 1, by omega, by go_num, by rw [HP.out, HS.out]; exact HF.out⟩
      case measure => simp [intOf]; omega
    · obtain rfl : t = 3 := by omega
      obtain ⟨c8, e8, o8⟩ := a1.own
      obtain ⟨c9, e9, o9⟩ := a2.own
      rw [pubsT_len] at e8 o8
      rw [sigsT_len] at e9 o9
      subst e8 e9
      have hg2z := a2.lt
      have hgl : (sigsT n1 ep es 3).length = 3 := sigsT_len _ _ _ _
      obtain ⟨r, hr, hr3⟩ : ∃ r : Nat, ((n1 : Nat) : Int).tmod 3 = (r : Int) ∧ r < 3 := ⟨n1 % 3, by rw [Int.tmod_eq_emod_of_nonneg (by omega)]; omega, by omega⟩
      have hr3i : (r : Int) < 3 := by omega
      have HC1 : Hid (checkF (pubsT n1 3) ep es (sigsT n1 ep es 3) = true) := sign_all HD.out n1
      have HC2 : Hid (checkF (pubsT n1 3) ep es ((sigsT n1 ep es 3).set r 0) = true) := sign_two HD.out n1 hr3
      have HC3 : Hid (checkF (pubsT n1 3) ep es ([0, 0, 0].set r ((sigsT n1 ep es 3).getD r 0)) = false) := check_one (k := r) fun i hi => three_set hi
      have I8 := Lib.hid o8.ints
      have I9 := Lib.hid o9.ints
      have BX := Lib.hid hbx
      have EN := Lib.hid hen
      have BL := Lib.hid hbl
      have hwz := hbl.size
      clear a1 a2 o8 o9 hbx hen hbl hlt HD
      generalize pubsT n1 3 = ps at *
      generalize sigsT n1 ep es 3 = gs at *
      have hal : Below wr.heap.size wr (wr.alloc (.cells #[] 3)) := (Below.refl _ _).alloc (Nat.le_refl _) _
      have IC := Lib.hid (I9.out.below hal (Nat.le_refl _))
      go_upto_region 18 with (at_builtin; refine wpList_appLB wr.heap.size _ _ [] (accB_new wr) _ _ _ _ _ gs IC.out (by simp only [List.length_nil]; omega) (.tmp 66) (.tmp 67) rfl rfl (by go_simp) (by go_simp) ?_; intro gT vT w5 hN5 hW5 hG5)
      rw [List.nil_append] at hN5
      obtain ⟨cT, eT, oT⟩ := hN5.own
      rw [hgl] at eT oT
      subst eT
      have hgT : wr.heap.size ≤ gT := by rcases hW5 with h | h; omega; simp at h; omega
      have b5 : Below wr.heap.size wr w5 := hal.grown hG5 hal.size fun q hq => by cases hq; exact Nat.le_refl _
      obtain ⟨_, _, e0, _, _, m0⟩ := oT.ints.at_ hr3
      simp only [Option.some.injEq, Addr.mk.injEq, and_true] at e0
      obtain ⟨rfl, rfl⟩ := e0
      have f0 := oT.2 _ _ (by omega) rfl r hr3
      have o6 := oT.set_ hr3 0
      rw [Nat.zero_add] at m0 f0 o6
      have b6 : Below wr.heap.size wr (w5.setCell ⟨gT, r, none⟩ (.int .i64 0)) := b5.setCell (p := ⟨gT, r, none⟩) hgT _
      have O6 := Lib.hid o6
      have B6 := Lib.hid b6
      clear hN5 hW5 hG5 oT o6 b5 b6 hal IC
      obtain ⟨gv, hgv⟩ : ∃ gv, gs.getD r 0 = gv := ⟨_, rfl⟩
      rw [hgv] at HC3
      have HGV := Lib.hid hgv
      clear hgv
      go_upto_region 19 with (fail)
      generalize (w5.setCell ⟨gT, r, none⟩ (.int .i64 0)) = w6 at *
      clear m0 f0
      obtain ⟨Z, hmk, hown⟩ := make3
      go_upto_region 20 with (fail)
      clear hmk
      have OZ := hown w6
      have hal7 := (Below.refl w6.heap.size w6).alloc (Nat.le_refl _) (.cells Z 3)
      generalize (w6.alloc (.cells Z 3)) = w7 at *
      have hz6 := B6.out.size
      have b7 := B6.out.trans (hal7.mono hz6)
      obtain ⟨_, _, e9, _, _, cg⟩ := (I9.out.below b7 (Nat.le_refl _)).at_ hr3
      simp only [Option.some.injEq, Addr.mk.injEq, and_true] at e9
      obtain ⟨rfl, rfl⟩ := e9
      obtain ⟨_, _, e0, _, _, m0⟩ := OZ.ints.at_ hr3
      simp only [Option.some.injEq, Addr.mk.injEq, and_true] at e0
      obtain ⟨rfl, rfl⟩ := e0
      have f0 := OZ.2 _ _ (by omega) rfl r hr3
      have OY := OZ.set_ hr3 (gs.getD r 0)
      rw [Nat.zero_add] at m0 f0 OY cg
      have hal8 := hal7.setCell (p := ⟨w6.heap.size, r, none⟩) (Nat.le_refl _) (.int .i64 (gs.getD r 0))
      have b8 := B6.out.trans (hal8.mono hz6)
      have O8 := Lib.hid (O6.out.ints.below hal8 (Nat.le_refl _))
      have OX := Lib.hid OY.ints
      have B8 := Lib.hid b8
      obtain ⟨y0, y1, yf⟩ := (BX.out.below b8 (Nat.le_refl _)).cells
      clear OZ OY hal7 b7 b8 hal8 O6 B6
      have hgv : gs.getD r 0 = gv := HGV.out
      rw [hgv] at cg OX B8 O8 y0 y1 yf
      go_wp2_with fail
      ((with_reducible refine (checkI HC1.out (EN.out.below B8.out (Nat.le_refl _)) (I8.out.below B8.out (Nat.le_refl _)) (I9.out.below B8.out (Nat.le_refl _))).mono ?_); rintro e w9 ⟨rfl, hb9⟩)
      have hz8 := B8.out.size
      have B9 := Lib.hid (B8.out.trans (hb9.mono hz8))
      have O9 := Lib.hid (O8.out.below hb9 (Nat.le_refl _))
      have OX9 := Lib.hid (OX.out.below hb9 (Nat.le_refl _))
      clear hb9 y0 y1 yf B8 O8 OX m0 f0 cg
      obtain ⟨y0, y1, yf⟩ := (BX.out.below B9.out (Nat.le_refl _)).cells
      go_wp2_with fail
      ((with_reducible refine (checkI HC2.out (EN.out.below B9.out (Nat.le_refl _)) (I8.out.below B9.out (Nat.le_refl _)) O9.out).mono ?_); rintro e wA ⟨rfl, hbA⟩)
      have BA := Lib.hid (B9.out.trans (hbA.mono B9.out.size))
      have OXA := Lib.hid (OX9.out.below hbA (Nat.le_refl _))
      clear hbA y0 y1 yf B9 O9 OX9
      obtain ⟨y0, y1, yf⟩ := (BX.out.below BA.out (Nat.le_refl _)).cells
      go_wp2_with fail
      ((with_reducible refine (checkI HC3.out (EN.out.below BA.out (Nat.le_refl _)) (I8.out.below BA.out (Nat.le_refl _)) OXA.out).mono ?_); rintro e wB ⟨rfl, hbB⟩)
      have BB := Lib.hid (BL.out.trans ((BA.out.trans (hbB.mono BA.out.size)).mono hwz))
      clear hbB y0 y1 yf BA OXA
      go_wp2
      go_ret
      exact ⟨rfl, BB.out⟩

end Law9
end Go.Proofs.Ytfnbjojaflloaab
