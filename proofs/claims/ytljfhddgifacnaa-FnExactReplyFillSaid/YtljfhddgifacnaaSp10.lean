/-
  Contracts of the model's chapter 22: ReplyMake and ReplyOpen.
-/
import Derived.Test.YtljfhddgifacnaaSp5b
import Derived.Test.YtljfhddgifacnaaRp
import Derived.Deep.RegionHeld3
import Derived.Deep.Cut
namespace Go.Proofs.Ytljfhddgifacnaa
open Go.RowKit
namespace Sp10
open Il Gm Mm Tm Lm Pm Pq Hlp5 Rm Cl Rp Sp2 Sp4 Sp5

theorem ints_blk {lo hi : Nat} {w : World} {A : Option Addr} {n c : Nat} {xs : List Int} (h : Ints lo hi w A n c xs) (hn : 0 < n) : ∃ b off, A = some ⟨b, off, none⟩ ∧ b < w.heap.size := by
  obtain ⟨b, off, e, _, _, hz, _⟩ := h.2.2.2 hn
  exact ⟨b, off, e, hz⟩
theorem path_of {x r : Int} {ps ns ls : List Int} (h : makeOk x ps ns r ls = true) : Sp5.pathOk x ps = true ∧ Sp5.pathF x ps = keysF x ps ∧ 1 ≤ ps.length ∧ ps.length ≤ 3 ∧ ns.length = ps.length := by
  obtain ⟨q1, q2, q3, q4, q5, q6⟩ := makeOk_iff.1 h
  have e1 : Sp5.pathOk x ps = true := by simp [Sp5.pathOk, q2, q3]
  obtain ⟨_, h1, h3⟩ := pubs_all q3
  exact ⟨e1, by simp [Sp5.pathF, e1], h1, h3, q4⟩
set_option maxRecDepth 20000 in
set_option maxHeartbeats 1000000 in
theorem ReplyMake (ps ns : List Int) (x r : Int) (A B : Option Addr) (n c m d l1 h1 l2 h2 : Nat) (w : World) (i1 : Ints l1 h1 w A n c ps) (i2 : Ints l2 h2 w B m d ns) :
    Calls Try.prog 15 #[.int .i64 x, .slice A n c, .slice B m d, .int .i64 r] w (RepPost (fstF x ps ns r) (repF x ps ns r) (makeOk x ps ns r []) w) := by
  obtain ⟨zb0, -, hs2, hb2⟩ := two_blk w #[.int .i64 0, .int .i64 0, .slice none 0 0, .int .i64 0] #[] 27 3
  have I1 := Lib.hid (i1.below hb2 (Nat.le_refl _))
  have I2 := Lib.hid (i2.below hb2 (Nat.le_refl _))
  have Z0 := Lib.hid zb0
  have HB := Lib.hid hb2
  have L1 := Lib.hid i1.1
  have L2 := Lib.hid i2.1
  have HBN := Lib.hid (fun (h : 0 < m) => ints_blk i2 h)
  clear i1 i2 zb0 hb2
  go_enter Try.func15, Try.ntmps15
  go_wp2_with fail
  generalize ((w.alloc (.cells #[.int .i64 0, .int .i64 0, .slice none 0 0, .int .i64 0] 27)).alloc (.cells #[] 3)) = w0 at *
  ((with_reducible refine (Sp5.PacketMake _ _ _ _ 0 0 _ _ _ _ _ _ _ _ _ ps ns [] x r _ I1.out I2.out (Ints.nil_ (Nat.zero_le _))).mono ?_); rintro e w1 ⟨AM, cm, BM, dm, g1, g2, rfl, hlie, hg1, hg2, hb1⟩)
  replace I1 := Lib.hid (I1.out.below hb1 (Nat.le_refl _))
  replace I2 := Lib.hid (I2.out.below hb1 (Nat.le_refl _))
  replace Z0 := Lib.hid (Z0.out.below hb1 (Nat.le_refl _))
  replace HB := Lib.hid (HB.out.trans (hb1.mono HB.out.size))
  have LM := Lib.hid hlie
  have hs1 := hb1.size
  clear hlie hb1
  cases hok : makeOk x ps ns r []
  · have HV := Lib.hid (fun (A : Option Addr) (w' : World) (hb : Below w.heap.size w w') => rep_no (A := A) hok hb)
    rw [makeF_no hok]
    clear hok LM
    obtain ⟨-, -, -, hb3⟩ := two_blk w1 #[.int .i64 Pkt.zero.el, .slice AM Pkt.zero.hd.length cm, .int .i64 Pkt.zero.tag, .slice BM Pkt.zero.bd.length dm] #[] 39 3
    obtain ⟨p0, p1, p2, p3, pf⟩ := four_cells (Z0.out.below hb3 (Nat.le_refl _))
    replace HB := Lib.hid (HB.out.trans (hb3.mono HB.out.size))
    clear hb3
    go_wp2
    refine bodyPost_ret (v := .tuple #[.agg #[.int .i64 0, .int .i64 0, .slice none 0 0, .int .i64 0], .slice (some ⟨w1.heap.size + 1, 0, none⟩) 0 0, .bool false]) ?_ rfl ?_
    · rw [results_cell2 rfl]
      go_simp
    · refine HV.out _ _ ?_
      exact below03 HB.out (by omega) _ _ _ _
  · obtain ⟨e1, e2, e3, e4, e5⟩ := path_of hok
    have HK := Lib.hid hok
    obtain ⟨p, hp⟩ : ∃ p, makeF x ps ns r [] = p := ⟨_, rfl⟩
    have HPE := Lib.hid hp
    rw [hp] at LM ⊢
    have hip : inG x = true ∧ (∀ p ∈ ps, inG p = true) := ⟨(makeOk_iff.1 hok).2.1, (pubs_all (makeOk_iff.1 hok).2.2.1).1⟩
    have hKL : (keysF x ps).length = ps.length := keysF_len x ps
    have T1 : g1 < w1.heap.size := (lies_lt LM.out).1 (by
      have h9 := (pktOk_iff.1 (Po.make_valid hok).1).2.2.1
      rw [hp] at h9
      omega)
    clear hok hp
    obtain ⟨zp, hsp, hbp⟩ := one_blk w1 #[.int .i64 p.el, .slice AM p.hd.length cm, .int .i64 p.tag, .slice BM p.bd.length dm] 39
    replace I1 := Lib.hid (I1.out.below hbp (Nat.le_refl _))
    replace I2 := Lib.hid (I2.out.below hbp (Nat.le_refl _))
    replace Z0 := Lib.hid (Z0.out.below hbp (Nat.le_refl _))
    replace LM := Lib.hid (LM.out.below hbp (Nat.le_refl _))
    replace HB := Lib.hid (HB.out.trans (hbp.mono HB.out.size))
    have ZP : Hid (Blk (w1.alloc (.cells #[.int .i64 p.el, .slice AM p.hd.length cm, .int .i64 p.tag, .slice BM p.bd.length dm] 39)) w1.heap.size _ _) := zp
    clear zp hbp
    obtain ⟨h0, h1, h2, h3, hf⟩ := four_cells ZP.out
    generalize hWC : (w1.alloc (.cells #[.int .i64 p.el, .slice AM p.hd.length cm, .int .i64 p.tag, .slice BM p.bd.length dm] 39)) = wc at *
    obtain ⟨bn, on, rfl, _, _, n0⟩ := I2.out.at_ (k := 0) (by rw [← L2.out, e5]; omega)
    rw [Nat.add_zero] at n0
    generalize hfe : ns.getD 0 0 = f at n0
    have HFE := Lib.hid hfe
    clear hfe
    have lh : w1.heap.size < wc.heap.size := by omega
    have ln : bn < wc.heap.size := World.block_lt_of_cell? wc _ n0
    have HS : Hid (∀ W', Below wc.heap.size wc W' → (W'.cell? ⟨bn, on, none⟩ = some (.int .i64 f) ∧ W'.cell? ⟨w1.heap.size, 0, none⟩ = some (.int .i64 p.el) ∧ W'.cell? ⟨w1.heap.size, 1, none⟩ = some (.slice AM p.hd.length cm) ∧ W'.cell? ⟨w1.heap.size, 2, none⟩ = some (.int .i64 p.tag))) := fun W' hb =>
      ⟨(hb.cell (p := ⟨bn, on, none⟩) ln).trans n0, (hb.cell (p := ⟨w1.heap.size, 0, none⟩) lh).trans h0, (hb.cell (p := ⟨w1.heap.size, 1, none⟩) lh).trans h1, (hb.cell (p := ⟨w1.heap.size, 2, none⟩) lh).trans h2⟩
    have DD : Hid (Below wc.heap.size wc wc.drew) := below_dr (Below.refl _ _) 1
    have S0 := Lib.hid (HS.out wc.drew DD.out)
    have I1d : Hid (Ints _ _ wc.drew A n c ps) := I1.out
    have hm0 : 0 < m := by rw [← L2.out, e5]; omega
    have hm1 : (0 : Int) < (m : Int) := by omega
    have HN1 : Hid (bn ≠ w.heap.size) := by
      obtain ⟨b9, o9, e9, h9⟩ := HBN.out hm0
      simp only [Option.some.injEq, Addr.mk.injEq, and_true] at e9
      show _ ≠ _
      omega
    have HN2 : Hid (w1.heap.size ≠ w.heap.size) := by show _ ≠ _; omega
    have hn3 : n ≤ 3 := by rw [← L1.out]; exact e4
    have HIP := Lib.hid hip
    clear h0 h1 h2 h3 hf n0 hip
    go_upto_region 4 with (fail)
    go_region_held3 (fun w' => w'.cell? ⟨bn, on, none⟩ = some (.int .i64 f) ∧ w'.cell? ⟨w1.heap.size, 0, none⟩ = some (.int .i64 p.el) ∧ w'.cell? ⟨w1.heap.size, 1, none⟩ = some (.slice AM p.hd.length cm) ∧ w'.cell? ⟨w1.heap.size, 2, none⟩ = some (.int .i64 p.tag))
      (first | with_reducible exact S0.out | with_reducible exact s8 | with_reducible exact ⟨(far03 HN1.out _ _ _ _).trans s8.1, (far03 HN2.out _ _ _ _).trans s8.2.1, (far03 HN2.out _ _ _ _).trans s8.2.2.1, (far03 HN2.out _ _ _ _).trans s8.2.2.2⟩ | fail)
      (first
      | (go_at_call 55; (with_reducible refine (Sp5.l5Keys _ _ _ _ _ ps x _ I1d.out HIP.out.1 HIP.out.2 hn3).mono ?_); rintro e w8 ⟨v8, rfl, hacc⟩; obtain ⟨AK, ck, rfl, ok2⟩ := own_of hacc.1; have hb8 : Below wc.drew.heap.size wc.drew w8 := Il.Acc.below hacc; have hb9 := DD.out.trans (hb8.mono DD.out.size); have s8 := HS.out w8 hb9; obtain ⟨z0, z1, z2, z3, zf⟩ := four_cells (Z0.out.below hb9 (Nat.le_refl _)))
      | fail)
    all_goals
      have hs8 := hb8.size
      have hd8 : wc.drew.heap.size = wc.heap.size := rfl
      have HP := Lib.hid (fun (v0 v1 v2 v3 : Value) => rep_yes (v0 := v0) (v1 := v1) (v2 := v2) (v3 := v3) (g := w.heap.size) HK.out HPE.out HFE.out (LM.out.below hb9 (Nat.le_refl _)) ok2 (by omega) (by omega) (by omega) (Nat.le_refl _) (HB.out.trans (hb9.mono HB.out.size)))
      clear s8 hb8 hb9 ok2 hacc
      go_wp2
      refine bodyPost_ret (v := .tuple #[.agg #[.int .i64 f, .int .i64 p.el, .slice AM p.hd.length cm, .int .i64 p.tag], .slice AK (keysF x ps).length ck, .bool true]) ?_ rfl ?_
      · rw [results_cell2 rfl]
        go_simp
      · exact HP.out _ _ _ _

theorem opn_bad {ks b : List Int} (h : ¬ (pubsOk ks = true ∧ okL b = true ∧ b.length = 6)) : opnOk ks b = false := by
  cases ho : opnOk ks b
  · rfl
  · obtain ⟨q1, q2, q3, _⟩ := opnOk_iff.1 ho
    exact absurd ⟨q1, q2, q3⟩ h
set_option maxRecDepth 20000 in
set_option maxHeartbeats 1000000 in
theorem ReplyOpen (ks bs : List Int) (A B : Option Addr) (n c m d l1 h1 l2 h2 : Nat) (w : World) (i1 : Ints l1 h1 w A n c ks) (i2 : Ints l2 h2 w B m d bs) :
    Calls Try.prog 30 #[.slice A n c, .slice B m d] w (PairB (opnF ks bs) (opnOk ks bs) w) := by
  have hc1 := i1.2.2.1
  have hc2 := i1.2.1
  have hc3 := i2.2.2.1
  have hc4 := i2.2.1
  have HL := Lib.hid i1.1
  have HM := Lib.hid i2.1
  unfold maxLen at hc1 hc3
  have I1 := Lib.hid i1
  have I2 := Lib.hid i2
  clear i1 i2
  have HNO : Hid (∀ b : Nat, opnOk ks bs = false → PairB (opnF ks bs) (opnOk ks bs) w (.returned (.tuple #[.slice (some ⟨b, 0, none⟩) 0 0, .bool false])) (w.alloc (.cells #[] 3))) := fun b h => by
    rw [opnF_no h, h]
    exact ⟨_, _, rfl, Own.nil_ (Nat.zero_le _), (Below.refl _ _).alloc (Nat.le_refl _) _⟩
  cases hp : pubsOk ks
  · have HV := Lib.hid (opn_no (b := bs) hp)
    go_enter Try.func30, Try.ntmps30
    go_wp2_with fail
    ((with_reducible refine (l5Publics _ _ _ _ _ ks w I1.out).mono ?_); rintro e w' ⟨rfl, rfl⟩)
    rw [hp]
    clear hp
    go_wp2
    go_ret2
    exact HNO.out _ HV.out
  cases hb : okL bs
  · have HV := Lib.hid (opn_bad (ks := ks) (b := bs) (by rw [hb]; simp))
    go_enter Try.func30, Try.ntmps30
    go_wp2_with fail
    ((with_reducible refine (l5Publics _ _ _ _ _ ks w I1.out).mono ?_); rintro e w' ⟨rfl, rfl⟩)
    rw [hp]
    clear hp
    go_wp2_with fail
    ((with_reducible refine (l2List _ _ _ _ _ bs w I2.out).mono ?_); rintro e w' ⟨rfl, rfl⟩)
    rw [hb]
    clear hb
    go_wp2
    go_ret2
    exact HNO.out _ HV.out
  by_cases h6 : m = 6
  · subst h6
    have HPK := Lib.hid (opn_is (b := bs) hp)
    have HKS := Lib.hid (pubs_all hp).1
    have HBD := Lib.hid (fun k : Nat => body_ok (ks.take k) bs hb)
    have HOF := Lib.hid (onsF_ok (ks := ks) hb (pubs_all hp).1)
    have hal : Below w.heap.size w (w.alloc (.cells #[] 3)) := (Below.refl _ _).alloc (Nat.le_refl _) _
    have HA := Lib.hid (acc_new w)
    have I2a := Lib.hid (I2.out.below hal (Nat.le_refl _))
    clear hal
    obtain ⟨bq, oq, rfl, _, _, _⟩ := I2.out.at_ (k := 0) (by omega)
    go_enter Try.func30, Try.ntmps30
    go_wp2_with fail
    ((with_reducible refine (l5Publics _ _ _ _ _ ks w I1.out).mono ?_); rintro e w' ⟨rfl, rfl⟩)
    rw [hp]
    clear hp
    go_wp2_with fail
    ((with_reducible refine (l2List _ _ _ _ _ bs w I2.out).mono ?_); rintro e w' ⟨rfl, rfl⟩)
    rw [hb]
    clear hb
    go_wp2_with (at_builtin; refine wpList_appL _ _ _ _ HA.out _ _ _ _ _ _ I2a.out (by omega) (by simp) _ _ rfl rfl rfl rfl ?_; intro v3 w3 hN3 hB3; rw [List.nil_append] at hN3)
    obtain ⟨A3, c3, rfl, ho3⟩ := own_of hN3.1
    have hb3 : Below w.heap.size w w3 := Il.Acc.below hN3
    have H0 : Hid (∃ B' c', (Value.slice A3 bs.length c3) = .slice B' (bodyF bs (ks.take 0)).length c' ∧ (∃ l h, Ints l h w3 B' (bodyF bs (ks.take 0)).length c' (bodyF bs (ks.take 0))) ∧ Below w.heap.size w w3) :=
      ⟨A3, c3, rfl, ⟨_, _, ho3.ints⟩, hb3⟩
    clear hN3 hB3 ho3 hb3
    go_loopw [6, 7] (fun s i wr => ∃ k : Nat, k ≤ n ∧ i = .int .i64 k ∧ Hid (∃ B' c', s = .slice B' (bodyF bs (ks.take k)).length c' ∧ (∃ l h, Ints l h wr B' (bodyF bs (ks.take k)).length c' (bodyF bs (ks.take k))) ∧ Below w.heap.size w wr)) (fun _ i _ => n - (intOf i).toNat)
    case atStart => exact ⟨0, Nat.zero_le _, rfl, H0.out⟩
    case round =>
      obtain ⟨k, hk, rfl, hT⟩ := hrel
      obtain ⟨B', c', rfl, ⟨l, h, hx⟩, hbw⟩ := hT
      have HX := Lib.hid hx
      have HB := Lib.hid hbw
      clear hx hbw H0
      by_cases hlt : k < n
      · obtain ⟨b, off, rfl, _, _, hcx0⟩ := I1.out.at_ hlt
        have hcx := (HB.out.cell (p := ⟨b, off + k, none⟩) (World.block_lt_of_cell? w _ hcx0)).trans hcx0
        have HS := Lib.hid (bodyF_take (b := bs) (show k < ks.length by rw [HL.out]; exact hlt))
        have hky := inG_iff.1 (HKS.out _ (getD_mem (show k < ks.length by rw [HL.out]; exact hlt)))
        have HO := Lib.hid (HBD.out k)
        generalize ks.getD k 0 = key at hcx HS hky
        generalize bodyF bs (ks.take k) = xs at HX HS HO ⊢
        clear hcx0
        go_wp2_with fail
        ((with_reducible refine (l2On _ _ _ _ _ xs key wr HX.out HO.out hky.1 hky.2).mono ?_); rintro e w2 ⟨A2, c2, rfl, ho, hb2⟩)
        have HN : Hid (∃ B' c', (Value.slice A2 (onL xs key).length c2) = .slice B' (bodyF bs (ks.take (k + 1))).length c' ∧ (∃ l h, Ints l h w2 B' (bodyF bs (ks.take (k + 1))).length c' (bodyF bs (ks.take (k + 1)))) ∧ Below w.heap.size w w2) := by
          rw [HS.out]
          exact ⟨A2, c2, rfl, ⟨_, _, ho.ints⟩, HB.out.trans (hb2.mono HB.out.size)⟩
        clear ho hb2
        go_wp2
        go_roundw
        case rel => exact ⟨k + 1, by omega, by go_num, HN.out⟩
        case measure => simp [intOf]; omega
      · have hkn : k = n := by omega
        have hke : bodyF bs (ks.take k) = onsF bs ks := by rw [hkn, List.take_of_length_le (by rw [HL.out]; exact Nat.le_refl _), HOF.out]
        rw [hke] at HX ⊢
        clear hkn hke HOF
        generalize onsF bs ks = xs at HX HPK ⊢
        go_wp2_with fail
        ((with_reducible refine (Sp4.LetterOpen _ _ _ _ _ xs wr HX.out).mono ?_); rintro e w2 ⟨A2, c2, rfl, ho, hb2⟩)
        rw [HPK.out.2] at ho ⊢
        rw [HPK.out.1]
        have HP2 : Hid (PairB (opnF ks bs) (opnOk ks bs) w (.returned (.tuple #[.slice A2 (opnF ks bs).length c2, .bool (opnOk ks bs)])) w2) :=
          ⟨A2, c2, rfl, ho.mono HB.out.size (Nat.le_refl _), HB.out.trans (hb2.mono HB.out.size)⟩
        clear ho hb2
        go_wp2
        go_ret2
        exact HP2.out
  · have HV := Lib.hid (opn_bad (ks := ks) (b := bs) (by rw [HM.out]; simp [h6]))
    have e6 : ((m : Int) != 6) = true := by simp; omega
    clear h6
    go_enter Try.func30, Try.ntmps30
    go_wp2_with fail
    ((with_reducible refine (l5Publics _ _ _ _ _ ks w I1.out).mono ?_); rintro e w' ⟨rfl, rfl⟩)
    rw [hp]
    clear hp
    go_wp2_with fail
    ((with_reducible refine (l2List _ _ _ _ _ bs w I2.out).mono ?_); rintro e w' ⟨rfl, rfl⟩)
    rw [hb]
    clear hb
    go_wp2
    go_ret2
    exact HNO.out _ HV.out

end Sp10
end Go.Proofs.Ytljfhddgifacnaa
