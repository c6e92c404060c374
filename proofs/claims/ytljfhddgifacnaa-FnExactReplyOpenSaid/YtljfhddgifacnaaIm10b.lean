/-
  The contract of the program's ReplyMake.
-/
import Derived.Test.YtljfhddgifacnaaIm10
import Derived.Deep.Cut
namespace Go.Proofs.Ytljfhddgifacnaa
open Go.RowKit
namespace Im10
open Il Gm Mm Tm Lm Pm Pq Hlp5 Rm Cl Rp

theorem ints_blk {lo hi : Nat} {w : World} {A : Option Addr} {n c : Nat} {xs : List Int} (h : Ints lo hi w A n c xs) (hn : 0 < n) : ∃ b off, A = some ⟨b, off, none⟩ ∧ b < w.heap.size := by
  obtain ⟨b, off, e, _, _, hz, _⟩ := h.2.2.2 hn
  exact ⟨b, off, e, hz⟩
theorem path_of {x r : Int} {ps ns ls : List Int} (h : makeOk x ps ns r ls = true) : Sp5.pathOk x ps = true ∧ Sp5.pathF x ps = keysF x ps ∧ 1 ≤ ps.length ∧ ps.length ≤ 3 ∧ ns.length = ps.length := by
  obtain ⟨q1, q2, q3, q4, q5, q6⟩ := makeOk_iff.1 h
  have e1 : Sp5.pathOk x ps = true := by simp [Sp5.pathOk, q2, q3]
  obtain ⟨_, h1, h3⟩ := pubs_all q3
  exact ⟨e1, by simp [Sp5.pathF, e1], h1, h3, q4⟩
set_option maxRecDepth 20000 in
set_option maxHeartbeats 1000000 in
theorem ReplyMake (ps ns : List Int) (x r : Int) (A B : Option Addr) (n c m d l1 h1 l2 h2 : Nat) (w : World) (i1 : Ints l1 h1 w A n c ps) (i2 : Ints l2 h2 w B m d ns) :
    Calls Try.prog 14 #[.int .i64 x, .slice A n c, .slice B m d, .int .i64 r] w (RepPost (fstF x ps ns r) (repF x ps ns r) (makeOk x ps ns r []) w) := by
  obtain ⟨zb0, -, hs2, hb2⟩ := two_blk w #[.int .i64 0, .int .i64 0, .slice none 0 0, .int .i64 0] #[] 27 3
  have I1 := Lib.hid (i1.below hb2 (Nat.le_refl _))
  have I2 := Lib.hid (i2.below hb2 (Nat.le_refl _))
  have Z0 := Lib.hid zb0
  have HB := Lib.hid hb2
  have L1 := Lib.hid i1.1
  have L2 := Lib.hid i2.1
  have HBN := Lib.hid (fun (h : 0 < m) => ints_blk i2 h)
  clear i1 i2 zb0 hb2
  go_enter Try.func14, Try.ntmps14
  go_wp2_with fail
  generalize ((w.alloc (.cells #[.int .i64 0, .int .i64 0, .slice none 0 0, .int .i64 0] 27)).alloc (.cells #[] 3)) = w0 at *
  ((with_reducible refine (Im5.PacketMake _ _ _ _ 0 0 _ _ _ _ _ _ _ _ _ ps ns [] x r _ I1.out I2.out (Ints.nil_ (Nat.zero_le _))).mono ?_); rintro e w1 ⟨AM, cm, BM, dm, g1, g2, rfl, hlie, hg1, hg2, hb1⟩)
  replace I1 := Lib.hid (I1.out.below hb1 (Nat.le_refl _))
  replace I2 := Lib.hid (I2.out.below hb1 (Nat.le_refl _))
  replace Z0 := Lib.hid (Z0.out.below hb1 (Nat.le_refl _))
  replace HB := Lib.hid (HB.out.trans (hb1.mono HB.out.size))
  have LM := Lib.hid hlie
  have hs1 := hb1.size
  clear hlie hb1
  cases hok : makeOk x ps ns r []
  · have HV := Lib.hid (fun (A : Option Addr) (w' : World) (hb : Below w.heap.size w w') => rep_no (A := A) hok hb)
    rw [makeF_no hok]
    clear hok LM
    obtain ⟨-, -, -, hb3⟩ := two_blk w1 #[.int .i64 Pkt.zero.el, .slice AM Pkt.zero.hd.length cm, .int .i64 Pkt.zero.tag, .slice BM Pkt.zero.bd.length dm] #[] 39 3
    obtain ⟨p0, p1, p2, p3, pf⟩ := four_cells (Z0.out.below hb3 (Nat.le_refl _))
    replace HB := Lib.hid (HB.out.trans (hb3.mono HB.out.size))
    clear hb3
    go_wp2
    refine bodyPost_ret (v := .tuple #[.agg #[.int .i64 0, .int .i64 0, .slice none 0 0, .int .i64 0], .slice (some ⟨w1.heap.size + 1, 0, none⟩) 0 0, .bool false]) ?_ rfl ?_
    · rw [results_cell2 rfl]
      go_simp
    · refine HV.out _ _ ?_
      exact below03 HB.out (by omega) _ _ _ _
  · obtain ⟨e1, e2, e3, e4, e5⟩ := path_of hok
    have HK := Lib.hid hok
    obtain ⟨p, hp⟩ : ∃ p, makeF x ps ns r [] = p := ⟨_, rfl⟩
    have HPE := Lib.hid hp
    rw [hp] at LM ⊢
    have hKL : (keysF x ps).length = ps.length := keysF_len x ps
    have T1 : g1 < w1.heap.size := (lies_lt LM.out).1 (by
      have h9 := (pktOk_iff.1 (Po.make_valid hok).1).2.2.1
      rw [hp] at h9
      omega)
    clear hok hp
    obtain ⟨zp, hsp, hbp⟩ := one_blk w1 #[.int .i64 p.el, .slice AM p.hd.length cm, .int .i64 p.tag, .slice BM p.bd.length dm] 39
    replace I1 := Lib.hid (I1.out.below hbp (Nat.le_refl _))
    replace I2 := Lib.hid (I2.out.below hbp (Nat.le_refl _))
    replace Z0 := Lib.hid (Z0.out.below hbp (Nat.le_refl _))
    replace LM := Lib.hid (LM.out.below hbp (Nat.le_refl _))
    replace HB := Lib.hid (HB.out.trans (hbp.mono HB.out.size))
    have ZP : Hid (Blk (w1.alloc (.cells #[.int .i64 p.el, .slice AM p.hd.length cm, .int .i64 p.tag, .slice BM p.bd.length dm] 39)) w1.heap.size _ _) := zp
    clear zp hbp
    go_wp2_with fail
    ((with_reducible refine (Im5.PathKeys _ _ _ _ _ ps x _ I1.out).mono ?_); rintro e w2 ⟨AK, ck, rfl, ok2, hb2⟩)
    rw [e1]
    rw [e2] at ok2 ⊢
    have OK := Lib.hid ok2
    replace I2 := Lib.hid (I2.out.below hb2 (Nat.le_refl _))
    replace Z0 := Lib.hid (Z0.out.below hb2 (Nat.le_refl _))
    replace ZP := Lib.hid (ZP.out.below hb2 (Nat.le_refl _))
    replace LM := Lib.hid (LM.out.below hb2 (Nat.le_refl _))
    replace HB := Lib.hid (HB.out.trans (hb2.mono HB.out.size))
    have hs3 := hb2.size
    clear ok2 hb2
    obtain ⟨q0, q1, q2, q3, qf⟩ := four_cells ZP.out
    obtain ⟨zh, hsh, hbh⟩ := one_blk w2 #[.int .i64 p.el, .slice AM p.hd.length cm, .int .i64 p.tag] 78
    replace I2 := Lib.hid (I2.out.below hbh (Nat.le_refl _))
    replace Z0 := Lib.hid (Z0.out.below hbh (Nat.le_refl _))
    replace LM := Lib.hid (LM.out.below hbh (Nat.le_refl _))
    replace OK := Lib.hid (OK.out.below hbh (Nat.le_refl _))
    replace HB := Lib.hid (HB.out.trans (hbh.mono HB.out.size))
    obtain ⟨h0, h1, h2, hf⟩ := three_cl zh
    clear hbh
    generalize hWC : (w2.alloc (.cells #[.int .i64 p.el, .slice AM p.hd.length cm, .int .i64 p.tag] 78)) = wc at *
    obtain ⟨bn, on, rfl, _, _, n0⟩ := I2.out.at_ (k := 0) (by rw [← L2.out, e5]; omega)
    rw [Nat.add_zero] at n0
    have HF := Lib.hid (show ns.getD 0 0 = ns.getD 0 0 from rfl)
    generalize hfe : ns.getD 0 0 = f at n0
    have HFE := Lib.hid hfe
    clear HF hfe
    have lh : w2.heap.size < wc.heap.size := by omega
    have ln : bn < wc.heap.size := World.block_lt_of_cell? wc _ n0
    have HS : Hid (∀ W', Below wc.heap.size wc W' → (W'.cell? ⟨bn, on, none⟩ = some (.int .i64 f) ∧ W'.cell? ⟨w2.heap.size, 0, none⟩ = some (.int .i64 p.el) ∧ W'.cell? ⟨w2.heap.size, 1, none⟩ = some (.slice AM p.hd.length cm) ∧ W'.cell? ⟨w2.heap.size, 2, none⟩ = some (.int .i64 p.tag))) := fun W' hb =>
      ⟨(hb.cell (p := ⟨bn, on, none⟩) ln).trans n0, (hb.cell (p := ⟨w2.heap.size, 0, none⟩) lh).trans h0, (hb.cell (p := ⟨w2.heap.size, 1, none⟩) lh).trans h1, (hb.cell (p := ⟨w2.heap.size, 2, none⟩) lh).trans h2⟩
    have DD : Hid (Below wc.heap.size wc wc.drew) := below_dr (Below.refl _ _) 1
    have S0 := Lib.hid (HS.out wc.drew DD.out)
    have hm0 : 0 < m := by rw [← L2.out, e5]; omega
    have hm1 : (0 : Int) < (m : Int) := by omega
    have HN1 : Hid (bn ≠ w.heap.size) := by
      obtain ⟨b9, o9, e9, h9⟩ := HBN.out hm0
      simp only [Option.some.injEq, Addr.mk.injEq, and_true] at e9
      show _ ≠ _
      omega
    have HN2 : Hid (w2.heap.size ≠ w.heap.size) := by show _ ≠ _; omega
    go_upto_region 6 with (fail)
    clear q0 q1 q2 q3 qf h0 h1 h2 hf n0
    go_region_held3 (fun w' => w'.cell? ⟨bn, on, none⟩ = some (.int .i64 f) ∧ w'.cell? ⟨w2.heap.size, 0, none⟩ = some (.int .i64 p.el) ∧ w'.cell? ⟨w2.heap.size, 1, none⟩ = some (.slice AM p.hd.length cm) ∧ w'.cell? ⟨w2.heap.size, 2, none⟩ = some (.int .i64 p.tag))
      (first | with_reducible exact S0.out | with_reducible exact s8 | with_reducible exact ⟨(far03 HN1.out _ _ _ _).trans s8.1, (far03 HN2.out _ _ _ _).trans s8.2.1, (far03 HN2.out _ _ _ _).trans s8.2.2.1, (far03 HN2.out _ _ _ _).trans s8.2.2.2⟩ | fail)
      (first
      | (go_at_call 53; (with_reducible refine (block f p.el p.tag AM p.hd.length cm _).mono ?_); rintro e w8 ⟨rfl, hb8⟩; have hb9 := DD.out.trans (hb8.mono DD.out.size); have s8 := HS.out w8 hb9; obtain ⟨z0, z1, z2, z3, zf⟩ := four_cells (Z0.out.below hb9 (Nat.le_refl _)))
      | fail)
    all_goals
      have hs8 := hb8.size
      have hd8 : wc.drew.heap.size = wc.heap.size := rfl
      have HP := Lib.hid (fun (v0 v1 v2 v3 : Value) => rep_yes (v0 := v0) (v1 := v1) (v2 := v2) (v3 := v3) (g := w.heap.size) HK.out HPE.out HFE.out (LM.out.below hb9 (Nat.le_refl _)) (OK.out.below hb9 (Nat.le_refl _)) (by omega) (by omega) (by omega) (Nat.le_refl _) (HB.out.trans (hb9.mono HB.out.size)))
      clear s8 hb8 hb9
      go_wp2
      refine bodyPost_ret (v := .tuple #[.agg #[.int .i64 f, .int .i64 p.el, .slice AM p.hd.length cm, .int .i64 p.tag], .slice AK (keysF x ps).length ck, .bool true]) ?_ rfl ?_
      · rw [results_cell2 rfl]
        go_simp
      · exact HP.out _ _ _ _

end Im10
end Go.Proofs.Ytljfhddgifacnaa
