/-
  Contract of the model's DirectoryPath.
-/
import Derived.Test.YtfjggpdinfidcaaSp9c
namespace Go.Proofs.Ytfjggpdinfidcaa
open Go.RowKit
namespace Sp9
open Il Sl Ec Dm Gm

theorem AccB.below_ {g B : Nat} {u u2 : World} {v : Value} {ys : List Int} (h : AccB g u v ys) (hb : Below B u u2) (hB : u.heap.size ≤ B) : AccB g u2 v ys := by
  have hlt := h.lt
  have hs := hb.block g (by omega)
  obtain ⟨cap, rfl, ho⟩ := h
  refine ⟨cap, rfl, ho.1, ?_⟩
  cases ho.2 with
  | inl h => exact .inl h
  | inr h =>
    obtain ⟨g1, cap1, cur, e, h1, h2, h3, h4, h5, h6⟩ := h
    have hg : g1 = g := by
      simp only [Value.slice.injEq, Option.some.injEq, Addr.mk.injEq, and_true] at e
      exact e.1.symm
    subst hg
    exact .inr ⟨g1, cap1, cur, e, h1, hs.trans h2, h3, h4, h5, h6⟩
/-- What has been gathered of a path: the names (out) and the places (ch), beside the directory's box. -/
def PRel (lo hi : Nat) (w wr : World) (A : Option Addr) (n k : Nat) (ep : Int) (es : List En) (v7 v8 : Value) (out ch : List Int) : Prop :=
  ∃ g1 g2, AccB g1 wr v7 out ∧ AccB g2 wr v8 ch ∧ g1 ≠ g2 ∧ w.heap.size < g1 ∧ w.heap.size < g2 ∧ DRel w.heap.size lo hi w wr A n k ep es
theorem drel_grown {lo hi g : Nat} {w wr w2 : World} {A : Option Addr} {n k : Nat} {ep : Int} {es : List En} (h : DRel w.heap.size lo hi w wr A n k ep es) (hhi : hi ≤ w.heap.size) (hg : wr.grownBy w2 (some g)) (hlt : w.heap.size < g) : DRel w.heap.size lo hi w w2 A n k ep es := by
  obtain ⟨h1, h2, h3⟩ := h
  have hsz := h3.size
  refine ⟨?_, h2.grown hg fun q e => by simp at e; omega, hg.os.trans h3.os, hg.tape.trans h3.tape, hg.output.trans h3.output, Nat.le_trans h3.size hg.size, fun b hb => ?_⟩
  · exact (hg.block w.heap.size h1.lt (by simp; omega)).trans h1
  · exact (hg.block b (by omega) (by simp; omega)).trans (h3.block b hb)
section
variable {lo hi : Nat} {w wr w2 : World} {A : Option Addr} {n k : Nat} {ep : Int} {es : List En} {v7 v8 : Value} {out ch : List Int}
theorem PRel.rel (h : PRel lo hi w wr A n k ep es v7 v8 out ch) : DRel w.heap.size lo hi w wr A n k ep es := by obtain ⟨_, _, _, _, _, _, _, h⟩ := h; exact h
theorem PRel.below (h : PRel lo hi w wr A n k ep es v7 v8 out ch) (hb : Below wr.heap.size wr w2) : PRel lo hi w w2 A n k ep es v7 v8 out ch := by
  obtain ⟨g1, g2, h1, h2, h3, h4, h5, h6⟩ := h
  exact ⟨g1, g2, AccB.below_ h1 hb (Nat.le_refl _), AccB.below_ h2 hb (Nat.le_refl _), h3, h4, h5, h6.below hb⟩
theorem PRel.post (h : PRel lo hi w wr A n k ep es v7 v8 out ch) : NewInts w out (.returned v7) wr := by
  obtain ⟨g1, g2, h1, h2, h3, h4, h5, h6⟩ := h
  obtain ⟨cap, rfl, ho⟩ := h1.own
  exact ⟨_, cap, rfl, ho.mono (by omega) (by have := h1.lt; omega), h6.bel⟩
theorem PRel.ints8 (h : PRel lo hi w wr A n k ep es v7 v8 out ch) : ∃ g c, v8 = .slice (some ⟨g, 0, none⟩) ch.length c ∧ AccB g wr v8 ch ∧ w.heap.size < g ∧ Ints g (g + 1) wr (some ⟨g, 0, none⟩) ch.length c ch := by
  obtain ⟨g1, g2, h1, h2, h3, h4, h5, h6⟩ := h
  have h2' := h2
  obtain ⟨cap, rfl, ho⟩ := h2.own
  exact ⟨g2, cap, rfl, h2', h5, ho.ints⟩
theorem PRel.is7 (h : PRel lo hi w wr A n k ep es v7 v8 out ch) : ∃ g c, v7 = .slice (some ⟨g, 0, none⟩) out.length c := by
  obtain ⟨g1, g2, h1, h2, h3, h4, h5, h6⟩ := h
  obtain ⟨cap, rfl, ho⟩ := h1.own
  exact ⟨g1, cap, rfl⟩
end
theorem prel_new {lo : Nat} {w : World} {A : Option Addr} {n k : Nat} {es : List En} (ep : Int) (hx : Ens lo w.heap.size w A n k es) :
    PRel lo w.heap.size w (((w.alloc (.cells #[.int .i64 ep, .slice A n k] 25)).alloc (.cells #[] 3)).alloc (.cells #[] 3)) A n k ep es (.slice (some ⟨w.heap.size + 1, 0, none⟩) 0 0) (.slice (some ⟨w.heap.size + 1 + 1, 0, none⟩) 0 0) [] [] := by
  have h0 := drel_new hx ep
  have s0 : (w.alloc (.cells #[.int .i64 ep, .slice A n k] 25)).heap.size = w.heap.size + 1 := by simp
  generalize w.alloc (.cells #[.int .i64 ep, .slice A n k] 25) = w0 at *
  have a1 := accB_new w0
  have s1 : (w0.alloc (.cells #[] 3)).heap.size = w.heap.size + 1 + 1 := by simp [s0]
  have h1 := h0.alloc (.cells #[] 3)
  rw [s0] at a1
  generalize w0.alloc (.cells #[] 3) = w1 at *
  have a2 := accB_new w1
  rw [s1] at a2
  exact ⟨_, _, a1.alloc _, a2, by omega, by omega, by omega, h1.alloc _⟩
set_option maxRecDepth 20000 in
set_option maxHeartbeats 2000000 in
theorem DirectoryPath (ep s h : Int) (es : List En) (A : Option Addr) (n k lo hi : Nat) (w : World) (hx : Ens lo hi w A n k es) :
    Calls Try.prog 31 #[.agg #[.int .i64 ep, .slice A n k], .int .i64 s, .int .i64 h] w (NewInts w (pathF ep es s h)) := by
  have HP0 := Lib.hid (prel_new ep (hx.top (Nat.le_refl _)))
  obtain ⟨z0, z1, zf⟩ := HP0.out.rel.box.cells
  have HL := Lib.hid hx.len_
  clear hx
  go_enter Try.func31, Try.ntmps31
  go_wp2_with fail
  ((with_reducible refine (DirectoryValid ep es _ _ _ _ _ _ HP0.out.rel.ens).mono ?_); rintro e w1 ⟨rfl, hb⟩)
  have HP1 := Lib.hid (HP0.out.below hb)
  clear hb z0 z1 zf HP0
  cases hd : dirOk ep es
  · have HV : Hid (pathF ep es s h = []) := pathF_no (by rw [hd]; rfl)
    go_wp2
    go_ret
    rw [HV.out]
    exact HP1.out.post
  go_wp2_with fail
  ((with_reducible refine (l6D s _).mono ?_); rintro e w2 ⟨rfl, rfl⟩)
  cases hs : seedB s
  · have HV : Hid (pathF ep es s h = []) := pathF_no (by rw [hs, Bool.false_and, Bool.and_false])
    go_wp2
    go_ret
    rw [HV.out]
    exact HP1.out.post
  go_wp2_with fail
  ((with_reducible refine (l6H h _).mono ?_); rintro e w3 ⟨rfl, rfl⟩)
  cases hh : hopB h
  · have HV : Hid (pathF ep es s h = []) := pathF_no (by rw [hh, Bool.and_false, Bool.and_false])
    go_wp2
    go_ret
    rw [HV.out]
    exact HP1.out.post
  have hs' : 0 ≤ s ∧ s ≤ 999999 := by simpa [seedB] using hs
  have hh' : 1 ≤ h ∧ h ≤ 3 := by simpa [hopB] using hh
  have HV : Hid (pathF ep es s h = pathN es h.toNat [] s) := pathF_yes hd hs hh
  have HO := Lib.hid (dirOk_iff.1 hd).1
  have HD := Lib.hid hd
  obtain ⟨H, rfl⟩ := Int.eq_ofNat_of_zero_le (show 0 ≤ h by omega)
  have hH : H ≤ 3 := by omega
  obtain ⟨hs0, hs1⟩ := hs'
  clear hs hh hd hh'
  go_wp2
  go_loopg [7, 8, 1] H (fun g v7 v8 sd wr => ∃ (ch : List Int) (q : Int), ch.length + g = H ∧ sd = .int .i64 q ∧ 0 ≤ q ∧ q ≤ 999999 ∧ Hid (Chosen es ch ∧ pathC es g ch q = pathC es H [] s) ∧ Hid (PRel lo w.heap.size w wr A n k ep es v7 v8 (ch.map (nmI es)) ch))
  case atStart => exact ⟨[], s, by simp, rfl, hs0, hs1, ⟨chosen_nil es, rfl⟩, HP1.out⟩
  case round =>
    obtain ⟨ch, q, hlen, rfl, hq0, hq1, hT, hR⟩ := hrel
    clear HP1
    obtain ⟨z0, z1, zf⟩ := hR.out.rel.box.cells
    obtain ⟨g7, c7, rfl⟩ := hR.out.is7
    obtain ⟨g8, c8, rfl, _, hg8, hi8⟩ := hR.out.ints8
    have HI8 := Lib.hid hi8
    clear hi8
    cases gk with
    | zero =>
      have HF : Hid (pathF ep es s (H : Int) = ch.map (nmI es)) := HV.out.trans (pathN_some (by rw [Int.toNat_natCast, ← hT.out.2]; rfl))
      have hl : (ch.map (nmI es)).length = H := by rw [List.length_map]; omega
      have HR := Lib.hid hR.out
      clear hT hR
      rw [hl] at HR ⊢
      go_wp2
      go_ret
      rw [HF.out]
      exact HR.out.post
    | succ g =>
      have hl : (ch.map (nmI es)).length = ch.length := List.length_map _
      have hlt : (ch.length : Int) < (H : Int) := by omega
      have HR := Lib.hid hR.out
      have HT := Lib.hid hT.out
      clear hT hR
      rw [hl] at HR ⊢
      go_wp2_with fail
      ((with_reducible refine (l21Weight ep es ch _ _ _ _ _ _ _ _ _ _ _ HR.out.rel.ens HI8.out (wb_of HD.out)).mono ?_); rintro e w4 ⟨rfl, hb4⟩)
      have HR4 := Lib.hid (HR.out.below hb4)
      have HI4 := Lib.hid (HI8.out.below hb4 (Nat.le_refl _))
      obtain ⟨hw0, hw1⟩ := wtL_max HD.out ch
      clear hb4 z0 z1 zf HR HI8
      by_cases hw : wtL ch es = 0
      · have HF : Hid (pathF ep es s (H : Int) = []) := HV.out.trans (pathN_none (by rw [Int.toNat_natCast, ← HT.out.2]; exact pathC_none hw))
        have HB := Lib.hid HR4.out.rel.bel
        rw [hw]
        have a0 := accB_new w4
        have HN : Hid (NewInts w [] (.returned (.slice (some ⟨w4.heap.size, 0, none⟩) 0 0)) (w4.alloc (.cells #[] 3))) := by
          obtain ⟨cap, e, ho⟩ := a0.own
          simp only [Value.slice.injEq, true_and, List.length_nil] at e
          obtain rfl := e
          have hsz := HB.out.size
          exact ⟨_, 0, rfl, ho.mono (by omega) (by have := a0.lt; omega), HB.out.alloc hsz _⟩
        clear a0 HR4 HI4 HT hw hw0 hw1
        go_wp2
        go_ret
        rw [HF.out]
        exact HN.out
      · have hwp : 0 < wtL ch es := by omega
        obtain ⟨j, hj, hpk, _, _⟩ := pick_mod (nn_of HO.out) (s := q) hw
        have hpk2 : pickL ch es (q.tmod (wtL ch es)) = (j : Int) := by rw [Int.tmod_eq_emod_of_nonneg hq0]; exact hpk
        have HCH : Hid (Chosen es (ch ++ [(j : Int)]) ∧ pathC es g (ch ++ [(j : Int)]) (q / wtL ch es) = pathC es H [] s) := by
          refine ⟨by rw [← hpk]; exact chosen_next (nn_of HO.out) HT.out.1 hw, ?_⟩
          rw [← hpk, ← pathC_next hw]
          exact HT.out.2
        have hm0 : 0 ≤ q.tmod (wtL ch es) := by rw [Int.tmod_eq_emod_of_nonneg hq0]; exact Int.emod_nonneg _ hw
        have hm1 : q.tmod (wtL ch es) ≤ 9223372036854775807 := by
          rw [Int.tmod_eq_emod_of_nonneg hq0]
          have := Int.emod_lt_of_pos q hwp
          omega
        have hd0 : 0 ≤ q / wtL ch es := Int.ediv_nonneg hq0 (by omega)
        have hd1 : q / wtL ch es ≤ 999999 := Int.le_trans (Int.ediv_le_self _ hq0) hq1
        have hdt : q.tdiv (wtL ch es) = q / wtL ch es := Int.tdiv_eq_ediv_of_nonneg hq0
        have hwz : (wtL ch es == 0) = false := by simpa using hw
        have hjn : j < n := by rw [← HL.out]; exact hj
        clear hwp hpk HT
        have SA : Hid (w4.drew.cell? ⟨w.heap.size, 0, none⟩ = some (.int .i64 ep) ∧ w4.drew.cell? ⟨w.heap.size, 1, none⟩ = some (.slice A n k)) := ⟨HR4.out.rel.box.cells.1, HR4.out.rel.box.cells.2.1⟩
        have HRD : Hid (PRel lo w.heap.size w w4.drew A n k ep es (.slice (some ⟨g7, 0, none⟩) ch.length c7) (.slice (some ⟨g8, 0, none⟩) ch.length c8) (ch.map (nmI es)) ch) := by
          obtain ⟨a1, a2, a3, a4, a5, a6, a7, a8⟩ := HR4.out
          exact ⟨a1, a2, a3, a4, a5, a6, a7, a8.dr 1⟩
        have HID : Hid (Ints g8 (g8 + 1) w4.drew (some ⟨g8, 0, none⟩) ch.length c8 ch) := HI4.out
        have HCL : Hid (Calls Try.prog 58 #[.agg #[.int .i64 ep, .slice A n k], .slice (some ⟨g8, 0, none⟩) ch.length c8, .int .i64 (q.tmod (wtL ch es))] w4.drew (IntB (j : Int) w4.drew)) := by
          rw [← hpk2]
          exact l21Pick ep (q.tmod (wtL ch es)) es ch _ _ _ _ _ _ _ _ _ _ _ HRD.out.rel.ens HID.out HD.out hm0 hm1
        clear hpk2
        generalize wtL ch es = wv at *
        go_upto_region 9 with (fail)
        go_region_held3 (fun w' => w'.cell? ⟨w.heap.size, 0, none⟩ = some (.int .i64 ep) ∧ w'.cell? ⟨w.heap.size, 1, none⟩ = some (.slice A n k))
          (first | with_reducible exact SA.out | with_reducible exact kB | fail)
          (first
            | (go_at_call 58; refine HCL.out.mono ?_; rintro e w5 ⟨rfl, hb5⟩; have kB : w5.cell? ⟨w.heap.size, 0, none⟩ = some (.int .i64 ep) ∧ w5.cell? ⟨w.heap.size, 1, none⟩ = some (.slice A n k) := ⟨(HRD.out.below hb5).rel.box.cells.1, (HRD.out.below hb5).rel.box.cells.2.1⟩)
            | fail)
        all_goals
          have HR5 := Lib.hid (HRD.out.below hb5)
          obtain ⟨g1, g2, a1, a2, a3, a4, a5, a6⟩ := HR5.out
          have A1 := Lib.hid a1
          have A2 := Lib.hid a2
          have A6 := Lib.hid a6
          have hjn' : (j : Int) < (n : Int) := by omega
          have hwr : IntKind.i64.wrap (q.tdiv wv) = q / wv := IntWalk.i64_quo _ _ ⟨hq0, by omega, by omega⟩
          have hl3 : ch.length ≤ 3 := by omega
          have HML : Hid ((ch.map (nmI es)).length = ch.length) := List.length_map _
          clear a1 a2 a6 hb5 kB HRD HR4 HI4 HID HCL SA HR5
          go_upto_region 12 with (at_builtin; refine wpList_app1B g2 w5 _ ch (j : Int) A2.out (by omega) (.tmp 46) (.tmp 48) rfl rfl rfl rfl ?_; intro g2' v8 w6 hN6 hW6 hG6; have D6 := Lib.hid (drel_grown A6.out (Nat.le_refl _) hG6 a5); obtain ⟨y0, y1, yf⟩ := D6.out.box.cells; obtain ⟨bE, oE, rfl, _, _, _, c0, c1, c2⟩ := D6.out.ens.at_ hjn; have B1 := Lib.hid (A1.out.keep hG6 (by simp; omega)))
          go_wp2_with (at_builtin; refine wpList_app1B g1 w6 _ (ch.map (nmI es)) (enAt es j).nm B1.out (by rw [HML.out]; omega) (.tmp 50) (.tmp 57) rfl rfl rfl rfl ?_; intro g1' v7 w7 hN7 hW7 hG7)
          have hlt1 := A1.out.lt
          have hlt2 := hN6.lt
          have hs6 := hG6.size
          have HF : Hid (PRel lo w.heap.size w w7 (some ⟨bE, oE, none⟩) n k ep es v7 v8 ((ch ++ [(j : Int)]).map (nmI es)) (ch ++ [(j : Int)])) := by
            refine ⟨g1', g2', ?_, hN6.keep hG7 (by simp; omega), by omega, by omega, by omega, drel_grown D6.out (Nat.le_refl _) hG7 a4⟩
            rw [List.map_append]
            exact hN7
          go_roundg g
          case rel => exact ⟨ch ++ [(j : Int)], q / wv, by rw [List.length_append, List.length_singleton]; omega, rfl, hd0, hd1, HCH.out, HF.out⟩
          case measure => omega

end Sp9
end Go.Proofs.Ytfjggpdinfidcaa
