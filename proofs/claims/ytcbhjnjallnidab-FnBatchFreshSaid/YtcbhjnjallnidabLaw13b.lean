/-
  Laws of chapter 32 on batches: each returns true and writes nothing that was there.
-/
import Derived.Test.YtcbhjnjallnidabIm13c
import Derived.Test.YtcbhjnjallnidabIm13d
import Derived.Test.YtcbhjnjallnidabBl13
import Derived.Test.YtcbhjnjallnidabDr13b
import Derived.Test.YtcbhjnjallnidabIla
import Derived.Deep.RegionLaw
import Derived.Deep.Cut
namespace Go.Proofs.Ytcbhjnjallnidab
open Go.RowKit
namespace Law13
open Il Sl Fc Fp Pm Sp13 Im13 LawB Rd

section
variable {lo hi l1 h1 l2 h2 l3 h3 n c m d p e : Nat} {A B C : Option Addr} {xs ys zs : List Fl} {ss rs : List Int} {nm : Int} {w : World} {r : Bool}
theorem batI (e : batF ss rs nm = ys) (hx : Ints l1 h1 w A n c ss) (hy : Ints l2 h2 w B m d rs) (hn : n ≤ 2000000) : Calls Try.prog 11 #[.slice A n c, .slice B m d, .int .i64 nm] w (FlsPost ys w) := e ▸ BatchFlows l1 h1 l2 h2 A B n m c d ss rs nm w hx hy hn
theorem batS (e : batF ss rs nm = ys) (hx : Ints l1 h1 w A n c ss) (hy : Ints l2 h2 w B m d rs) (hn : n ≤ 2000000) : Calls Try.prog 12 #[.slice A n c, .slice B m d, .int .i64 nm] w (FlsPost ys w) := e ▸ sBatchFlows l1 h1 l2 h2 A B n m c d ss rs nm w hx hy hn
theorem viewI (e : viewF xs = ys) (hx : Fls lo hi w A n c xs) : Calls Try.prog 16 #[.slice A n c] w (FlsPost ys w) := e ▸ ViewOf lo hi A n c xs w hx
theorem sameI (e : sameV xs ys = r) (hx : Fls l1 h1 w A n c xs) (hy : Fls l2 h2 w B m d ys) : Calls Try.prog 15 #[.slice A n c, .slice B m d] w (BoolB r w) := e ▸ ViewSame l1 h1 l2 h2 A B n c m d xs ys w hx hy
theorem sameT (hx : Fls l1 h1 w A n c xs) (hy : Fls l2 h2 w B m d xs) : Calls Try.prog 13 #[.slice A n c, .slice B m d] w (BoolB true w) :=
  (sameFlows l1 h1 l2 h2 A B n c m d xs xs w hx hy).mono fun _ _ h => by
    obtain ⟨h1, q, rfl⟩ := h
    rw [decide_eq_true rfl] at h1
    exact ⟨h1, bd (Below.refl _ _)⟩
/-- A batch, its senders and receivers while they are looked at. -/
def BRel (l1 h1 l2 h2 l3 h3 : Nat) (w wr : World) (A B C : Option Addr) (n c m d p e : Nat) (xs : List Fl) (ss rs : List Int) : Prop := Fls l1 h1 wr A n c xs ∧ Ints l2 h2 wr B m d ss ∧ Ints l3 h3 wr C p e rs ∧ Below w.heap.size w wr
theorem BRel.dn {wr : World} (h : BRel l1 h1 l2 h2 l3 h3 w wr A B C n c m d p e xs ss rs) (q : Nat) : BRel l1 h1 l2 h2 l3 h3 w (wr.drewN q) A B C n c m d p e xs ss rs := ⟨h.1, h.2.1, h.2.2.1, bd h.2.2.2⟩
def XRel (l1 h1 : Nat) (w wr : World) (A : Option Addr) (n c : Nat) (xs : List Fl) : Prop := Fls l1 h1 wr A n c xs ∧ Below w.heap.size w wr
theorem XRel.dn {wr : World} (h : XRel l1 h1 w wr A n c xs) (q : Nat) : XRel l1 h1 w (wr.drewN q) A n c xs := ⟨h.1, bd h.2⟩
set_option maxRecDepth 20000 in
theorem countK {r : Int} (hx : Ints l1 h1 w A n c rs) (hn : n ≤ 2000000) : Calls Try.prog 14 #[.slice A n c, .int .i64 r] w fun e w' => e = .returned (.int .i64 ((rs.count r : Nat) : Int)) ∧ w = w' := by
  have hc1 := hx.2.2.1
  have hc2 := hx.2.1
  have HL := Lib.hid hx.1
  unfold maxLen at hc1
  have HX := Lib.hid hx
  clear hx
  go_enter Try.func14, Try.ntmps14
  go_wp2
  go_loop [5, 6] (fun k i => ∃ t : Nat, t ≤ n ∧ i = .int .i64 t ∧ k = .int .i64 (((rs.take t).count r : Nat) : Int)) (fun _ i => n - (intOf i).toNat)
  case atStart => exact ⟨0, Nat.zero_le _, rfl, rfl⟩
  case round =>
    obtain ⟨t, ht, rfl, rfl⟩ := hrel
    by_cases hlt : t < n
    · obtain ⟨b, off, rfl, _, _, c0⟩ := HX.out.at_ hlt
      have HCS := Lib.hid (cnt_snoc (zs := rs) (t := t) (by rw [HL.out]; exact hlt) r)
      have hcb : (rs.take t).count r ≤ 2000000 := by
        refine Nat.le_trans List.count_le_length ?_
        rw [List.length_take]; omega
      generalize rs.getD t 0 = z at *
      generalize (rs.take t).count r = cn at *
      by_cases hz : z = r
      · have hb : (z == r) = true := by simpa using hz
        have HC2 : Hid ((rs.take (t + 1)).count r = cn + 1) := by show _ = _; rw [HCS.out, if_pos hz]
        clear hz HCS
        go_wp2
        go_round
        case rel => exact ⟨t + 1, by omega, by go_num, by rw [HC2.out]; go_num⟩
        case measure => simp [intOf]; omega
      · have hb : (z == r) = false := by simpa using hz
        have HC2 : Hid ((rs.take (t + 1)).count r = cn) := by show _ = _; rw [HCS.out, if_neg hz]; rfl
        clear hz HCS
        go_wp2
        go_round
        case rel => exact ⟨t + 1, by omega, by go_num, by rw [HC2.out]⟩
        case measure => simp [intOf]; omega
    · obtain rfl : t = n := by omega
      have HT : Hid (rs.take t = rs) := List.take_of_length_le (by rw [HL.out]; exact Nat.le_refl _)
      rw [HT.out]
      clear hlt
      go_wp2
      go_ret
      exact ⟨rfl, rfl⟩
end
set_option maxRecDepth 20000 in
set_option maxHeartbeats 6000000 in
theorem fnBatch (A : Option Addr) (n c : Nat) (w : World) (h : CodeIs w A n c) :
    Calls Try.prog 3 #[.slice A n c] w (TruePost w) := by
  have HC := Lib.hid h
  clear h
  by_cases hn : 1048576 < n
  · go_enter Try.func3, Try.ntmps3
    go_wp2
    go_ret
    exact ⟨rfl, Below.refl _ _⟩
  have B : Hid (Below w.heap.size w w) := Below.refl _ _
  go_enter Try.func3, Try.ntmps3
  go_wp2_with fail
  ((with_reducible refine (DrawBatchFlows _ _ _ _ HC.out).mono ?_); rintro e w1 ⟨A0, c0, B0, d0, ss, rs, nm, rfl, hx, hy, hb, hl9⟩)
  replace B := Lib.hid (B.out.trans (hb.mono B.out.size))
  have z1 := hb.size
  have S0 := Lib.hid hx
  have R0 := Lib.hid hy
  clear hx hy HC
  clear hb
  obtain ⟨ys, HV⟩ : ∃ ys, Hid (batF ss rs nm = ys) := ⟨_, rfl⟩
  have hl2 : ss.length ≤ 2000000 := by omega
  go_wp2_with fail
  ((with_reducible refine (batI HV.out S0.out R0.out hl2).mono ?_); rintro e w2 ⟨AX1, cX1, rfl, ho, hb⟩)
  replace S0 := Lib.hid (S0.out.below hb (Nat.le_refl _))
  replace R0 := Lib.hid (R0.out.below hb (Nat.le_refl _))
  replace B := Lib.hid (B.out.trans (hb.mono B.out.size))
  have z2 := hb.size
  have X1 := Lib.hid ho.row_
  clear ho
  clear hb
  go_wp2_with fail
  ((with_reducible refine (batS HV.out S0.out R0.out hl2).mono ?_); rintro e w3 ⟨AX2, cX2, rfl, ho, hb⟩)
  replace S0 := Lib.hid (S0.out.below hb (Nat.le_refl _))
  replace R0 := Lib.hid (R0.out.below hb (Nat.le_refl _))
  replace X1 := Lib.hid (X1.out.below hb (Nat.le_refl _))
  replace B := Lib.hid (B.out.trans (hb.mono B.out.size))
  have z3 := hb.size
  have X2 := Lib.hid ho.row_
  clear ho
  clear hb
  have hm1 := X1.out.max_
  have hk1 := X1.out.cap_
  go_wp2_with fail
  ((with_reducible refine (sameT X1.out X2.out).mono ?_); rintro e w4 ⟨rfl, hb⟩)
  replace S0 := Lib.hid (S0.out.below hb (Nat.le_refl _))
  replace R0 := Lib.hid (R0.out.below hb (Nat.le_refl _))
  replace X1 := Lib.hid (X1.out.below hb (Nat.le_refl _))
  replace X2 := Lib.hid (X2.out.below hb (Nat.le_refl _))
  replace B := Lib.hid (B.out.trans (hb.mono B.out.size))
  have z4 := hb.size
  clear hb
  by_cases hx0 : ys.length = 0
  · have e0 : ((ys.length : Int) == 0) = true := by rw [hx0]; rfl
    clear hx0
    go_wp2_with fail
    ((with_reducible refine (sameT X1.out X2.out).mono ?_); rintro e w5 ⟨rfl, hb⟩)
    replace S0 := Lib.hid (S0.out.below hb (Nat.le_refl _))
    replace R0 := Lib.hid (R0.out.below hb (Nat.le_refl _))
    replace X1 := Lib.hid (X1.out.below hb (Nat.le_refl _))
    replace X2 := Lib.hid (X2.out.below hb (Nat.le_refl _))
    replace B := Lib.hid (B.out.trans (hb.mono B.out.size))
    have z5 := hb.size
    clear hb
    go_wp2
    go_ret
    exact ⟨rfl, B.out⟩
  have e0 : ((ys.length : Int) == 0) = false := by rw [beq_eq_false_iff_ne]; omega
  have HOK : Hid (batOk ss rs nm = true) := batF_pos (by rw [HV.out]; exact hx0)
  have HYV : Hid (batL ss rs nm = ys) := by show _ = _; rw [← HV.out, batF_yes HOK.out]
  have HYL : Hid (ys.length = 2 * ss.length) := by show _ = _; rw [← HYV.out, bat_len HOK.out]
  have HBO := Lib.hid (batOk_iff.1 HOK.out)
  have h8 : ss.length ≤ 8 := HBO.out.2.2.2.1
  have hq5 : 0 ≤ nm := HBO.out.2.2.2.2.1
  have hq6 : nm ≤ 990 := HBO.out.2.2.2.2.2
  have HRL : Hid (ss.length = rs.length) := HBO.out.2.2.1
  have hs1 := S0.out.2.1
  have hs2 := S0.out.2.2.1
  have hr1 := R0.out.2.1
  have hr2 := R0.out.2.2.1
  unfold maxLen at hs2 hr2
  have hpos : 0 < ss.length := by have := HYL.out; omega
  have hposr : 0 < rs.length := by have := HRL.out; omega
  clear hx0
  go_wp2
  clear e0
  have HR0 : Hid (BRel _ _ _ _ _ _ w w4 AX1 A0 B0 ys.length cX1 ss.length c0 rs.length d0 ys ss rs) := ⟨X1.out, S0.out, R0.out, B.out⟩
  clear X1 X2 S0 R0
  go_loopw [9] (fun i wr => ∃ k : Nat, k ≤ ss.length ∧ i = .int .i64 (k : Int) ∧ Hid (BRel _ _ _ _ _ _ w wr AX1 A0 B0 ys.length cX1 ss.length c0 rs.length d0 ys ss rs)) (fun i _ => ss.length - (intOf i).toNat)
  case atStart => exact ⟨0, Nat.zero_le _, rfl, HR0.out⟩
  case round =>
    obtain ⟨k, hk, rfl, hR⟩ := hrel
    clear HR0
    by_cases hlt : k < ss.length
    · have hky : k < ys.length := by have := HYL.out; omega
      obtain ⟨b1, o1, rfl, _, _, _, p0, p1, -⟩ := hR.out.1.at_ hky
      obtain ⟨b0, o0, rfl, _, _, s0⟩ := hR.out.2.1.at_ hlt
      have HH := Lib.hid (bat_head HYV.out hlt)
      rw [HH.out.1] at p0
      rw [HH.out.2] at p1
      have HR2 : Hid (∀ q, BRel _ _ _ _ _ _ w (wr.drewN q) (some ⟨b1, o1, none⟩) (some ⟨b0, o0, none⟩) B0 ys.length cX1 ss.length c0 rs.length d0 ys ss rs) := fun q => hR.out.dn q
      clear hR HH
      generalize ss.getD k 0 = x at *
      have q0 : (x != x) = false := by simp
      have q1 : ((-1 : Int) != -1) = false := by decide
      go_wp2
      go_quiet (fail)
      clear p0 p1 s0 q0 q1
      go_wp2
      go_roundw
      case rel => exact ⟨k + 1, by omega, by go_num, HR2.out _⟩
      case measure => simp [intOf]; omega
    · obtain rfl : ss.length = k := by omega
      clear hlt
      go_wp2
      go_loopw [10, 11, 12] (fun r _ _ wr => ∃ R : Nat, R ≤ 8 ∧ r = .int .i64 (R : Int) ∧ Hid (BRel _ _ _ _ _ _ w wr AX1 A0 B0 ys.length cX1 ss.length c0 rs.length d0 ys ss rs)) (fun r _ _ _ => 8 - (intOf r).toNat)
      case atStart => exact ⟨0, Nat.zero_le _, rfl, hR.out⟩
      case round =>
        obtain ⟨R, hR8, rfl, hT⟩ := hrel
        clear hR
        by_cases hRl : R < 8
        · have dR : decide ((R : Int) < 8) = true := by simp; omega
          go_wp2
          clear dR
          go_loopw [11, 12] (fun kk i wr => ∃ u : Nat, ss.length ≤ u ∧ u ≤ ys.length ∧ i = .int .i64 (u : Int) ∧ kk = .int .i64 (((((tos rs (nm + ss.length)).take (u - ss.length)).count (R : Int)) : Nat) : Int) ∧ Hid (BRel _ _ _ _ _ _ w wr AX1 A0 B0 ys.length cX1 ss.length c0 rs.length d0 ys ss rs)) (fun _ i _ => ys.length - (intOf i).toNat)
          case atStart => exact ⟨ss.length, Nat.le_refl _, by have := HYL.out; omega, rfl, by rw [Nat.sub_self, List.take_zero]; rfl, hT.out⟩
          case round =>
            obtain ⟨u, hu0, hu1, rfl, rfl, hU⟩ := hrel
            clear hT
            by_cases hul : u < ys.length
            · have hun : u - ss.length < ss.length := by have := HYL.out; omega
              obtain ⟨b1, o1, rfl, _, _, _, -, p1, -⟩ := hU.out.1.at_ hul
              have HH : Hid ((flAt ys u).to = (tos rs (nm + ss.length)).getD (u - ss.length) 0) := by
                have := (bat_rest HOK.out HYV.out hun).2
                rwa [show ss.length + (u - ss.length) = u by omega] at this
              rw [HH.out] at p1
              have HCS := Lib.hid (cnt_snoc (zs := tos rs (nm + ss.length)) (t := u - ss.length) (by rw [tos_len HOK.out]; exact hun) (R : Int))
              have hcb : ((tos rs (nm + ss.length)).take (u - ss.length)).count (R : Int) ≤ 16 := by
                refine Nat.le_trans List.count_le_length ?_
                rw [List.length_take]; omega
              have hus : u + 1 - ss.length = u - ss.length + 1 := by omega
              have HUS := Lib.hid hus
              clear hus HH
              generalize (tos rs (nm + ss.length)).getD (u - ss.length) 0 = z at *
              generalize ((tos rs (nm + ss.length)).take (u - ss.length)).count (R : Int) = cn at *
              by_cases hz : z = (R : Int)
              · have hb : (z == (R : Int)) = true := by simpa using hz
                have HC2 : Hid (((tos rs (nm + ss.length)).take (u - ss.length + 1)).count (R : Int) = cn + 1) := by show _ = _; rw [HCS.out, if_pos hz]
                clear hz HCS
                go_wp2
                go_roundw
                case rel => exact ⟨u + 1, by omega, by omega, by go_num, by rw [HUS.out, HC2.out]; go_num, hU.out⟩
                case measure => simp [intOf]; omega
              · have hb : (z == (R : Int)) = false := by simpa using hz
                have HC2 : Hid (((tos rs (nm + ss.length)).take (u - ss.length + 1)).count (R : Int) = cn) := by show _ = _; rw [HCS.out, if_neg hz]; rfl
                clear hz HCS
                go_wp2
                go_roundw
                case rel => exact ⟨u + 1, by omega, by omega, by go_num, by rw [HUS.out, HC2.out], hU.out⟩
                case measure => simp [intOf]; omega
            · obtain rfl : u = ys.length := by omega
              have HCE : Hid (((tos rs (nm + ss.length)).take (ys.length - ss.length)).count (R : Int) = rs.count (R : Int)) := by
                show _ = _
                rw [List.take_of_length_le (by rw [tos_len HOK.out, HYL.out]; omega)]
                exact (tos_perm _ HBO.out.2.1).count_eq _
              rw [HCE.out]
              have HRR := Lib.hid hU.out.2.2.1
              clear hul HCE
              go_wp2_with fail
              ((with_reducible refine (countK HRR.out (by have := HRL.out; omega)).mono ?_); rintro e w77 ⟨rfl, rfl⟩)
              generalize rs.count (R : Int) = cn at *
              have hbb : ((cn : Int) != (cn : Int)) = false := by simp
              go_wp2
              go_roundw
              case rel => exact ⟨R + 1, by omega, by go_num, hU.out⟩
              case measure => simp [intOf]; omega
        · obtain rfl : R = 8 := by omega
          have dR : decide (((8 : Nat) : Int) < 8) = false := by simp
          go_wp2
          clear dR
          go_loopw [13] (fun i wr => ∃ u : Nat, ss.length ≤ u ∧ u ≤ ys.length ∧ i = .int .i64 (u : Int) ∧ Hid (BRel _ _ _ _ _ _ w wr AX1 A0 B0 ys.length cX1 ss.length c0 rs.length d0 ys ss rs)) (fun i _ => ys.length - (intOf i).toNat)
          case atStart => exact ⟨ss.length, Nat.le_refl _, by have := HYL.out; omega, rfl, hT.out⟩
          case round =>
            obtain ⟨u, hu0, hu1, rfl, hU⟩ := hrel
            clear hT
            by_cases hul : u < ys.length
            · have hun : u - ss.length < ss.length := by have := HYL.out; omega
              have HH : Hid ((flAt ys u).fr = -1 ∧ (flAt ys u).to = (tos rs (nm + ss.length)).getD (u - ss.length) 0) := by
                have := bat_rest HOK.out HYV.out hun
                rwa [show ss.length + (u - ss.length) = u by omega] at this
              obtain ⟨b1, o1, rfl, _, _, _, p0, p1, -⟩ := hU.out.1.at_ hul
              rw [HH.out.1] at p0
              rw [HH.out.2] at p1
              have q0 : ((-1 : Int) != -1) = false := by decide
              have HR2 : Hid (∀ q, BRel _ _ _ _ _ _ w (wr.drewN q) (some ⟨b1, o1, none⟩) A0 B0 ys.length cX1 ss.length c0 rs.length d0 ys ss rs) := fun q => hU.out.dn q
              by_cases hu : u = ss.length
              · subst hu
                have du : decide ((ss.length : Int) < (ss.length : Int)) = false := by simp
                clear hU HH
                generalize (tos rs (nm + ss.length)).getD (ss.length - ss.length) 0 = z at *
                go_wp2
                go_quiet (fail)
                clear p0 p1 q0 du
                go_wp2
                go_roundw
                case rel => exact ⟨ss.length + 1, by omega, by omega, by go_num, HR2.out _⟩
                case measure => simp [intOf]; omega
              · have du : decide ((ss.length : Int) < (u : Int)) = true := by simp; omega
                have du2 : ss.length < u := by omega
                obtain ⟨j, hj⟩ : ∃ j, u = j + 1 := ⟨u - 1, by omega⟩
                have hjl : j < ys.length := by omega
                have hjn : j - ss.length < ss.length := by omega
                have HJ : Hid ((flAt ys j).to = (tos rs (nm + ss.length)).getD (j - ss.length) 0) := by
                  have := (bat_rest HOK.out HYV.out hjn).2
                  rwa [show ss.length + (j - ss.length) = j by omega] at this
                obtain ⟨_, _, e1, _, _, _, -, r1, -⟩ := hU.out.1.at_ hjl
                simp only [Option.some.injEq, Addr.mk.injEq, and_true] at e1
                obtain ⟨rfl, rfl⟩ := e1
                rw [HJ.out] at r1
                have hle : (tos rs (nm + ss.length)).getD (j - ss.length) 0 ≤ (tos rs (nm + ss.length)).getD (u - ss.length) 0 := tos_mono (by rw [tos_len HOK.out]; exact hun) (by omega)
                have ew : IntKind.i64.wrap ((u : Int) - 1) = (j : Int) := (IntWalk.i64_in ((u : Int) - 1) (by omega)).trans (by omega)
                clear hU HH HJ hj hu
                generalize (tos rs (nm + ss.length)).getD (u - ss.length) 0 = z at *
                generalize (tos rs (nm + ss.length)).getD (j - ss.length) 0 = y at *
                have dz : decide (z < y) = false := by simp; omega
                clear hle
                go_wp2
                go_quiet (fail)
                clear p0 p1 r1 q0 du du2 dz ew
                go_wp2
                go_roundw
                case rel => exact ⟨u + 1, by omega, by omega, by go_num, HR2.out _⟩
                case measure => simp [intOf]; omega
            · obtain rfl : u = ys.length := by omega
              have ew : IntKind.i64.wrap (2 * (ss.length : Int)) = 2 * (ss.length : Int) := IntWalk.i64_in _ (by omega)
              have hbe : ((ys.length : Int) == 2 * (ss.length : Int)) = true := by rw [HYL.out]; simp
              clear hul
              go_wp2
              go_ret
              exact ⟨rfl, hU.out.2.2.2⟩

set_option maxRecDepth 20000 in
set_option maxHeartbeats 2000000 in
theorem fnBatchFresh (A : Option Addr) (n c : Nat) (w : World) (h : CodeIs w A n c) :
    Calls Try.prog 4 #[.slice A n c] w (TruePost w) := by
  have HC := Lib.hid h
  clear h
  by_cases hn : 1048576 < n
  · go_enter Try.func4, Try.ntmps4
    go_wp2
    go_ret
    exact ⟨rfl, Below.refl _ _⟩
  have B : Hid (Below w.heap.size w w) := Below.refl _ _
  go_enter Try.func4, Try.ntmps4
  go_wp2_with fail
  ((with_reducible refine (DrawBatchFlows _ _ _ _ HC.out).mono ?_); rintro e w1 ⟨A0, c0, B0, d0, ss, rs, nm, rfl, hx, hy, hb, hl9⟩)
  replace B := Lib.hid (B.out.trans (hb.mono B.out.size))
  have z1 := hb.size
  have S0 := Lib.hid hx
  have R0 := Lib.hid hy
  clear hx hy HC
  clear hb
  obtain ⟨ys, HV⟩ : ∃ ys, Hid (batF ss rs nm = ys) := ⟨_, rfl⟩
  have hl2 : ss.length ≤ 2000000 := by omega
  go_wp2_with fail
  ((with_reducible refine (batI HV.out S0.out R0.out hl2).mono ?_); rintro e w2 ⟨AX1, cX1, rfl, ho, hb⟩)
  replace S0 := Lib.hid (S0.out.below hb (Nat.le_refl _))
  replace R0 := Lib.hid (R0.out.below hb (Nat.le_refl _))
  replace B := Lib.hid (B.out.trans (hb.mono B.out.size))
  have z2 := hb.size
  have X1 := Lib.hid ho.row_
  clear ho
  clear hb
  go_wp2_with fail
  ((with_reducible refine (batS HV.out S0.out R0.out hl2).mono ?_); rintro e w3 ⟨AX2, cX2, rfl, ho, hb⟩)
  replace S0 := Lib.hid (S0.out.below hb (Nat.le_refl _))
  replace R0 := Lib.hid (R0.out.below hb (Nat.le_refl _))
  replace X1 := Lib.hid (X1.out.below hb (Nat.le_refl _))
  replace B := Lib.hid (B.out.trans (hb.mono B.out.size))
  have z3 := hb.size
  have X2 := Lib.hid ho.row_
  clear ho
  clear hb
  have hm1 := X1.out.max_
  have hk1 := X1.out.cap_
  go_wp2_with fail
  ((with_reducible refine (sameT X1.out X2.out).mono ?_); rintro e w4 ⟨rfl, hb⟩)
  replace S0 := Lib.hid (S0.out.below hb (Nat.le_refl _))
  replace R0 := Lib.hid (R0.out.below hb (Nat.le_refl _))
  replace X1 := Lib.hid (X1.out.below hb (Nat.le_refl _))
  replace X2 := Lib.hid (X2.out.below hb (Nat.le_refl _))
  replace B := Lib.hid (B.out.trans (hb.mono B.out.size))
  have z4 := hb.size
  clear hb
  by_cases hx0 : ys.length = 0
  · have e0 : ((ys.length : Int) == 0) = true := by rw [hx0]; rfl
    clear hx0
    go_wp2_with fail
    ((with_reducible refine (sameT X1.out X2.out).mono ?_); rintro e w5 ⟨rfl, hb⟩)
    replace S0 := Lib.hid (S0.out.below hb (Nat.le_refl _))
    replace R0 := Lib.hid (R0.out.below hb (Nat.le_refl _))
    replace X1 := Lib.hid (X1.out.below hb (Nat.le_refl _))
    replace X2 := Lib.hid (X2.out.below hb (Nat.le_refl _))
    replace B := Lib.hid (B.out.trans (hb.mono B.out.size))
    have z5 := hb.size
    clear hb
    go_wp2
    go_ret
    exact ⟨rfl, B.out⟩
  have e0 : ((ys.length : Int) == 0) = false := by rw [beq_eq_false_iff_ne]; omega
  have HOK : Hid (batOk ss rs nm = true) := batF_pos (by rw [HV.out]; exact hx0)
  have HYV : Hid (batL ss rs nm = ys) := by show _ = _; rw [← HV.out, batF_yes HOK.out]
  have HYL : Hid (ys.length = 2 * ss.length) := by show _ = _; rw [← HYV.out, bat_len HOK.out]
  have HBO := Lib.hid (batOk_iff.1 HOK.out)
  have h8 : ss.length ≤ 8 := HBO.out.2.2.2.1
  have hq5 : 0 ≤ nm := HBO.out.2.2.2.2.1
  have hq6 : nm ≤ 990 := HBO.out.2.2.2.2.2
  have HRL : Hid (ss.length = rs.length) := HBO.out.2.2.1
  have hs1 := S0.out.2.1
  have hs2 := S0.out.2.2.1
  have hr1 := R0.out.2.1
  have hr2 := R0.out.2.2.1
  unfold maxLen at hs2 hr2
  have hpos : 0 < ss.length := by have := HYL.out; omega
  have hposr : 0 < rs.length := by have := HRL.out; omega
  clear hx0
  go_wp2
  clear e0
  have HR0 : Hid (XRel _ _ w w4 AX1 ys.length cX1 ys) := ⟨X1.out, B.out⟩
  clear X1 X2 S0 R0
  go_loopw [8, 9] (fun i _ wr => ∃ k : Nat, k ≤ ys.length ∧ i = .int .i64 (k : Int) ∧ Hid (XRel _ _ w wr AX1 ys.length cX1 ys)) (fun i _ _ => ys.length - (intOf i).toNat)
  case atStart => exact ⟨0, Nat.zero_le _, rfl, HR0.out⟩
  case round =>
    obtain ⟨k, hk, rfl, hR⟩ := hrel
    clear HR0
    by_cases hlt : k < ys.length
    · obtain ⟨b1, o1, rfl, _, _, _, -, -, -⟩ := hR.out.1.at_ hlt
      go_wp2
      go_loopw [9] (fun j wr => ∃ t : Nat, t ≤ k ∧ j = .int .i64 (t : Int) ∧ Hid (XRel _ _ w wr (some ⟨b1, o1, none⟩) ys.length cX1 ys)) (fun j _ => k - (intOf j).toNat)
      case atStart => exact ⟨0, Nat.zero_le _, rfl, hR.out⟩
      case round =>
        obtain ⟨t, ht, rfl, hT⟩ := hrel
        clear hR
        by_cases htk : t < k
        · have hty : t < ys.length := by omega
          have HF : Hid ((flAt ys k).nm ≠ (flAt ys t).nm) := by
            have := bat_fresh HOK.out (i := k) (k := t) (by rw [HYV.out]; exact hlt) htk
            rwa [HYV.out] at this
          obtain ⟨_, _, e1, _, _, _, -, -, p2⟩ := hT.out.1.at_ hlt
          simp only [Option.some.injEq, Addr.mk.injEq, and_true] at e1
          obtain ⟨rfl, rfl⟩ := e1
          obtain ⟨_, _, e1, _, _, _, -, -, q2⟩ := hT.out.1.at_ hty
          simp only [Option.some.injEq, Addr.mk.injEq, and_true] at e1
          obtain ⟨rfl, rfl⟩ := e1
          have HR2 : Hid (∀ q, XRel _ _ w (wr.drewN q) (some ⟨b1, o1, none⟩) ys.length cX1 ys) := fun q => hT.out.dn q
          clear hT
          have hb : ((flAt ys k).nm == (flAt ys t).nm) = false := by simpa using HF.out
          clear HF
          generalize (flAt ys k).nm = x at *
          generalize (flAt ys t).nm = y at *
          go_wp2
          go_quiet (fail)
          clear p2 q2 hb
          go_wp2
          go_roundw
          case rel => exact ⟨t + 1, by omega, by go_num, HR2.out _⟩
          case measure => simp [intOf]; omega
        · obtain rfl : t = k := by omega
          clear htk
          go_wp2
          go_roundw
          case rel => exact ⟨t + 1, by omega, by go_num, hT.out⟩
          case measure => simp [intOf]; omega
    · obtain rfl : k = ys.length := by omega
      clear hlt
      go_wp2
      go_ret
      exact ⟨rfl, hR.out.2⟩

set_option maxRecDepth 20000 in
set_option maxHeartbeats 2000000 in
theorem fnBatchName (A : Option Addr) (n c : Nat) (A1 : Option Addr) (n1 c1 : Nat) (w : World) (h : CodeIs w A n c) :
    Calls Try.prog 6 #[.slice A n c, .slice A1 n1 c1] w (TruePost w) := by
  have HC := Lib.hid h
  clear h
  by_cases hn : 1048576 < n
  · go_enter Try.func6, Try.ntmps6
    go_wp2
    go_ret
    exact ⟨rfl, Below.refl _ _⟩
  by_cases hn1 : 1048576 < n1
  · go_enter Try.func6, Try.ntmps6
    go_wp2
    go_ret
    exact ⟨rfl, Below.refl _ _⟩
  have B : Hid (Below w.heap.size w w) := Below.refl _ _
  go_enter Try.func6, Try.ntmps6
  go_wp2_with fail
  ((with_reducible refine (DrawBatchFlows _ _ _ _ HC.out).mono ?_); rintro e w1 ⟨A0, c0, B0, d0, ss, rs, nm, rfl, hx, hy, hb, hl9⟩)
  replace B := Lib.hid (B.out.trans (hb.mono B.out.size))
  have z1 := hb.size
  have S0 := Lib.hid hx
  have R0 := Lib.hid hy
  clear hx hy HC
  clear hb
  obtain ⟨ys, HV⟩ : ∃ ys, Hid (batF ss rs nm = ys) := ⟨_, rfl⟩
  have hl2 : ss.length ≤ 2000000 := by omega
  go_wp2_with fail
  ((with_reducible refine (batI HV.out S0.out R0.out hl2).mono ?_); rintro e w2 ⟨AX1, cX1, rfl, ho, hb⟩)
  replace S0 := Lib.hid (S0.out.below hb (Nat.le_refl _))
  replace R0 := Lib.hid (R0.out.below hb (Nat.le_refl _))
  replace B := Lib.hid (B.out.trans (hb.mono B.out.size))
  have z2 := hb.size
  have X1 := Lib.hid ho.row_
  clear ho
  clear hb
  go_wp2_with fail
  ((with_reducible refine (batS HV.out S0.out R0.out hl2).mono ?_); rintro e w3 ⟨AX2, cX2, rfl, ho, hb⟩)
  replace S0 := Lib.hid (S0.out.below hb (Nat.le_refl _))
  replace R0 := Lib.hid (R0.out.below hb (Nat.le_refl _))
  replace X1 := Lib.hid (X1.out.below hb (Nat.le_refl _))
  replace B := Lib.hid (B.out.trans (hb.mono B.out.size))
  have z3 := hb.size
  have X2 := Lib.hid ho.row_
  clear ho
  clear hb
  have hm1 := X1.out.max_
  have hk1 := X1.out.cap_
  go_wp2_with fail
  ((with_reducible refine (sameT X1.out X2.out).mono ?_); rintro e w4 ⟨rfl, hb⟩)
  replace S0 := Lib.hid (S0.out.below hb (Nat.le_refl _))
  replace R0 := Lib.hid (R0.out.below hb (Nat.le_refl _))
  replace X1 := Lib.hid (X1.out.below hb (Nat.le_refl _))
  replace X2 := Lib.hid (X2.out.below hb (Nat.le_refl _))
  replace B := Lib.hid (B.out.trans (hb.mono B.out.size))
  have z4 := hb.size
  clear hb
  by_cases hx0 : ys.length = 0
  · have e0 : ((ys.length : Int) == 0) = true := by rw [hx0]; rfl
    clear hx0
    go_wp2_with fail
    ((with_reducible refine (sameT X1.out X2.out).mono ?_); rintro e w5 ⟨rfl, hb⟩)
    replace S0 := Lib.hid (S0.out.below hb (Nat.le_refl _))
    replace R0 := Lib.hid (R0.out.below hb (Nat.le_refl _))
    replace X1 := Lib.hid (X1.out.below hb (Nat.le_refl _))
    replace X2 := Lib.hid (X2.out.below hb (Nat.le_refl _))
    replace B := Lib.hid (B.out.trans (hb.mono B.out.size))
    have z5 := hb.size
    clear hb
    go_wp2
    go_ret
    exact ⟨rfl, B.out⟩
  have e0 : ((ys.length : Int) == 0) = false := by rw [beq_eq_false_iff_ne]; omega
  have HOK : Hid (batOk ss rs nm = true) := batF_pos (by rw [HV.out]; exact hx0)
  have HYV : Hid (batL ss rs nm = ys) := by show _ = _; rw [← HV.out, batF_yes HOK.out]
  have HYL : Hid (ys.length = 2 * ss.length) := by show _ = _; rw [← HYV.out, bat_len HOK.out]
  have HBO := Lib.hid (batOk_iff.1 HOK.out)
  have h8 : ss.length ≤ 8 := HBO.out.2.2.2.1
  have hq5 : 0 ≤ nm := HBO.out.2.2.2.2.1
  have hq6 : nm ≤ 990 := HBO.out.2.2.2.2.2
  have HRL : Hid (ss.length = rs.length) := HBO.out.2.2.1
  have hs1 := S0.out.2.1
  have hs2 := S0.out.2.2.1
  have hr1 := R0.out.2.1
  have hr2 := R0.out.2.2.1
  unfold maxLen at hs2 hr2
  have hpos : 0 < ss.length := by have := HYL.out; omega
  have hposr : 0 < rs.length := by have := HRL.out; omega
  clear hx0
  have hn1 : n1 ≤ 1048576 := by omega
  obtain ⟨z, hz, hz0, hz1⟩ : ∃ z : Int, ((n1 : Nat) : Int).tmod 900 = z ∧ 0 ≤ z ∧ z ≤ 899 := ⟨_, rfl, Int.tmod_nonneg _ (by omega), by have := Int.tmod_lt_of_pos ((n1 : Nat) : Int) (show (0 : Int) < 900 by decide); omega⟩
  have HO2 : Hid (batOk ss rs z = true) := batOk_iff.2 ⟨HBO.out.1, HBO.out.2.1, HBO.out.2.2.1, h8, hz0, by omega⟩
  obtain ⟨zs, HZ⟩ : ∃ zs, Hid (batF ss rs z = zs) := ⟨_, rfl⟩
  have HSV : Hid (sameV ys zs = true) := by show _ = _; rw [← HYV.out, ← HZ.out, batF_yes HO2.out]; exact bat_same HOK.out HO2.out (List.Perm.refl _)
  go_wp2_with fail
  ((with_reducible refine (batI HZ.out S0.out R0.out hl2).mono ?_); rintro e w5 ⟨AX3, cX3, rfl, ho, hb⟩)
  replace S0 := Lib.hid (S0.out.below hb (Nat.le_refl _))
  replace R0 := Lib.hid (R0.out.below hb (Nat.le_refl _))
  replace X1 := Lib.hid (X1.out.below hb (Nat.le_refl _))
  replace X2 := Lib.hid (X2.out.below hb (Nat.le_refl _))
  replace B := Lib.hid (B.out.trans (hb.mono B.out.size))
  have z5 := hb.size
  have X3 := Lib.hid ho.row_
  clear ho
  clear hb
  go_wp2_with fail
  ((with_reducible refine (sameI HSV.out X1.out X3.out).mono ?_); rintro e w6 ⟨rfl, hb⟩)
  replace S0 := Lib.hid (S0.out.below hb (Nat.le_refl _))
  replace R0 := Lib.hid (R0.out.below hb (Nat.le_refl _))
  replace X1 := Lib.hid (X1.out.below hb (Nat.le_refl _))
  replace X2 := Lib.hid (X2.out.below hb (Nat.le_refl _))
  replace X3 := Lib.hid (X3.out.below hb (Nat.le_refl _))
  replace B := Lib.hid (B.out.trans (hb.mono B.out.size))
  have z6 := hb.size
  clear hb
  go_wp2
  go_ret
  exact ⟨rfl, B.out⟩

set_option maxRecDepth 20000 in
set_option maxHeartbeats 4000000 in
theorem fnBatchAlike (A : Option Addr) (n c : Nat) (A1 : Option Addr) (n1 c1 : Nat) (w : World) (h : CodeIs w A n c) :
    Calls Try.prog 5 #[.slice A n c, .slice A1 n1 c1] w (TruePost w) := by
  have HC := Lib.hid h
  clear h
  by_cases hn : 1048576 < n
  · go_enter Try.func5, Try.ntmps5
    go_wp2
    go_ret
    exact ⟨rfl, Below.refl _ _⟩
  by_cases hn1 : 1048576 < n1
  · go_enter Try.func5, Try.ntmps5
    go_wp2
    go_ret
    exact ⟨rfl, Below.refl _ _⟩
  have B : Hid (Below w.heap.size w w) := Below.refl _ _
  go_enter Try.func5, Try.ntmps5
  go_wp2_with fail
  ((with_reducible refine (DrawBatchFlows _ _ _ _ HC.out).mono ?_); rintro e w1 ⟨A0, c0, B0, d0, ss, rs, nm, rfl, hx, hy, hb, hl9⟩)
  replace B := Lib.hid (B.out.trans (hb.mono B.out.size))
  have z1 := hb.size
  have S0 := Lib.hid hx
  have R0 := Lib.hid hy
  clear hx hy HC
  clear hb
  obtain ⟨ys, HV⟩ : ∃ ys, Hid (batF ss rs nm = ys) := ⟨_, rfl⟩
  have hl2 : ss.length ≤ 2000000 := by omega
  go_wp2_with fail
  ((with_reducible refine (batI HV.out S0.out R0.out hl2).mono ?_); rintro e w2 ⟨AX1, cX1, rfl, ho, hb⟩)
  replace S0 := Lib.hid (S0.out.below hb (Nat.le_refl _))
  replace R0 := Lib.hid (R0.out.below hb (Nat.le_refl _))
  replace B := Lib.hid (B.out.trans (hb.mono B.out.size))
  have z2 := hb.size
  have X1 := Lib.hid ho.row_
  clear ho
  clear hb
  go_wp2_with fail
  ((with_reducible refine (batS HV.out S0.out R0.out hl2).mono ?_); rintro e w3 ⟨AX2, cX2, rfl, ho, hb⟩)
  replace S0 := Lib.hid (S0.out.below hb (Nat.le_refl _))
  replace R0 := Lib.hid (R0.out.below hb (Nat.le_refl _))
  replace X1 := Lib.hid (X1.out.below hb (Nat.le_refl _))
  replace B := Lib.hid (B.out.trans (hb.mono B.out.size))
  have z3 := hb.size
  have X2 := Lib.hid ho.row_
  clear ho
  clear hb
  have hm1 := X1.out.max_
  have hk1 := X1.out.cap_
  go_wp2_with fail
  ((with_reducible refine (sameT X1.out X2.out).mono ?_); rintro e w4 ⟨rfl, hb⟩)
  replace S0 := Lib.hid (S0.out.below hb (Nat.le_refl _))
  replace R0 := Lib.hid (R0.out.below hb (Nat.le_refl _))
  replace X1 := Lib.hid (X1.out.below hb (Nat.le_refl _))
  replace X2 := Lib.hid (X2.out.below hb (Nat.le_refl _))
  replace B := Lib.hid (B.out.trans (hb.mono B.out.size))
  have z4 := hb.size
  clear hb
  by_cases hx0 : ys.length = 0
  · have e0 : ((ys.length : Int) == 0) = true := by rw [hx0]; rfl
    clear hx0
    go_wp2_with fail
    ((with_reducible refine (sameT X1.out X2.out).mono ?_); rintro e w5 ⟨rfl, hb⟩)
    replace S0 := Lib.hid (S0.out.below hb (Nat.le_refl _))
    replace R0 := Lib.hid (R0.out.below hb (Nat.le_refl _))
    replace X1 := Lib.hid (X1.out.below hb (Nat.le_refl _))
    replace X2 := Lib.hid (X2.out.below hb (Nat.le_refl _))
    replace B := Lib.hid (B.out.trans (hb.mono B.out.size))
    have z5 := hb.size
    clear hb
    go_wp2
    go_ret
    exact ⟨rfl, B.out⟩
  have e0 : ((ys.length : Int) == 0) = false := by rw [beq_eq_false_iff_ne]; omega
  have HOK : Hid (batOk ss rs nm = true) := batF_pos (by rw [HV.out]; exact hx0)
  have HYV : Hid (batL ss rs nm = ys) := by show _ = _; rw [← HV.out, batF_yes HOK.out]
  have HYL : Hid (ys.length = 2 * ss.length) := by show _ = _; rw [← HYV.out, bat_len HOK.out]
  have HBO := Lib.hid (batOk_iff.1 HOK.out)
  have h8 : ss.length ≤ 8 := HBO.out.2.2.2.1
  have hq5 : 0 ≤ nm := HBO.out.2.2.2.2.1
  have hq6 : nm ≤ 990 := HBO.out.2.2.2.2.2
  have HRL : Hid (ss.length = rs.length) := HBO.out.2.2.1
  have hs1 := S0.out.2.1
  have hs2 := S0.out.2.2.1
  have hr1 := R0.out.2.1
  have hr2 := R0.out.2.2.1
  unfold maxLen at hs2 hr2
  have hpos : 0 < ss.length := by have := HYL.out; omega
  have hposr : 0 < rs.length := by have := HRL.out; omega
  clear hx0
  have hn1 : n1 ≤ 1048576 := by omega
  have hz : ((rs.length : Int) == 0) = false := by rw [beq_eq_false_iff_ne]; omega
  have hzz : ¬ (rs.length : Int) = 0 := by omega
  obtain ⟨a, ha, har⟩ : ∃ a : Nat, ((n1 : Nat) : Int).tmod (rs.length : Int) = (a : Int) ∧ a < rs.length := ⟨n1 % rs.length, by rw [Int.tmod_eq_emod_of_nonneg (by omega)]; simp, Nat.mod_lt _ hposr⟩
  obtain ⟨q8, hq8, hq8b⟩ : ∃ q : Nat, ((n1 : Nat) : Int).tdiv 8 = (q : Int) ∧ q ≤ 1048576 := ⟨n1 / 8, by rw [Int.tdiv_eq_ediv_of_nonneg (by omega)]; omega, by omega⟩
  obtain ⟨b, hb_, hbr⟩ : ∃ b : Nat, (q8 : Int).tmod (rs.length : Int) = (b : Int) ∧ b < rs.length := ⟨q8 % rs.length, by rw [Int.tmod_eq_emod_of_nonneg (by omega)]; simp, Nat.mod_lt _ hposr⟩
  have HA0 := Lib.hid (accR_new none w4)
  have R0a := Lib.hid (R0.out.below ((Below.refl w4.heap.size w4).alloc (Nat.le_refl _) (.cells #[] 3)) (Nat.le_refl _))
  have hr10 : ([] : List Int).length + rs.length ≤ 10000000 := by have := HRL.out; simp; omega
  go_upto_region 11 with (at_builtin; refine wpList_appAny w4 _ _ [] HA0.out _ _ _ _ _ rs R0a.out hr10 _ _ rfl rfl rfl rfl ?_; intro v7 w7 hN7 hB7)
  rw [List.nil_append] at hN7
  obtain ⟨A7, c7, rfl, ho7⟩ := own_of hN7.1
  have hbw : Below w4.heap.size w4 w7 := below_of_grown hN7.2
  have O7 := Lib.hid ho7
  have hc7 := ho7.1.2.1
  have hc8 := ho7.1.2.2.1
  unfold maxLen at hc8
  clear hN7 hB7 ho7 HA0 R0a hr10
  have R7 := R0.out.below hbw (Nat.le_refl _)
  obtain ⟨bR, oR, rfl, _, hbR, cb⟩ := R7.at_ hbr
  obtain ⟨_, _, e1, _, _, ca⟩ := R7.at_ har
  simp only [Option.some.injEq, Addr.mk.injEq, and_true] at e1
  obtain ⟨rfl, rfl⟩ := e1
  obtain ⟨bX, oX, rfl, hbX, _, xa⟩ := O7.out.1.at_ har
  have fa := O7.out.2 bX oX (by omega) rfl a har
  have O8 := Lib.hid (O7.out.set_ har (rs.getD b 0))
  have hb8 : Below w4.heap.size w4 (w7.setCell ⟨bX, oX + a, none⟩ (.int .i64 (rs.getD b 0))) := hbw.setCell (p := ⟨bX, oX + a, none⟩) hbX _
  generalize hrb : rs.getD b 0 = rb at *
  go_upto_region 12 with (fail)
  clear cb ca xa fa
  generalize w7.setCell ⟨bX, oX + a, none⟩ (.int .i64 rb) = w8 at *
  clear hbw R7 O7
  have R8 := R0.out.below hb8 (Nat.le_refl _)
  obtain ⟨_, _, e1, _, _, ca⟩ := R8.at_ har
  simp only [Option.some.injEq, Addr.mk.injEq, and_true] at e1
  obtain ⟨rfl, rfl⟩ := e1
  obtain ⟨_, _, e1, _, _, xb⟩ := O8.out.1.at_ hbr
  simp only [Option.some.injEq, Addr.mk.injEq, and_true] at e1
  obtain ⟨rfl, rfl⟩ := e1
  have fb := O8.out.2 bX oX (by omega) rfl b hbr
  have O9 := Lib.hid (O8.out.set_ hbr (rs.getD a 0))
  have hb9 : Below w4.heap.size w4 (w8.setCell ⟨bX, oX + b, none⟩ (.int .i64 (rs.getD a 0))) := hb8.setCell (p := ⟨bX, oX + b, none⟩) hbX _
  have HPM : Hid (((rs.set a rb).set b (rs.getD a 0)).Perm rs) := by rw [← hrb]; exact swp_perm har hbr
  have HQL : Hid (((rs.set a rb).set b (rs.getD a 0)).length = rs.length) := by show _ = _; rw [List.length_set, List.length_set]
  generalize (rs.set a rb).getD b 0 = xb_ at *
  generalize hra : rs.getD a 0 = ra at *
  generalize (rs.set a rb).set b ra = qs at *
  go_wp2_with fail
  clear ca xb fb R8 O8 hb8
  generalize w8.setCell ⟨bX, oX + b, none⟩ (.int .i64 ra) = w9 at *
  replace S0 := Lib.hid (S0.out.below hb9 (Nat.le_refl _))
  replace R0 := Lib.hid (R0.out.below hb9 (Nat.le_refl _))
  replace X1 := Lib.hid (X1.out.below hb9 (Nat.le_refl _))
  replace X2 := Lib.hid (X2.out.below hb9 (Nat.le_refl _))
  replace B := Lib.hid (B.out.trans (hb9.mono B.out.size))
  clear hb9
  have HO2 : Hid (batOk ss qs nm = true) := batOk_iff.2 ⟨HBO.out.1, all_perm HPM.out HBO.out.2.1, by rw [HQL.out]; exact HBO.out.2.2.1, h8, hq5, hq6⟩
  obtain ⟨zs, HZ⟩ : ∃ zs, Hid (batF ss qs nm = zs) := ⟨_, rfl⟩
  have HSV : Hid (sameV ys zs = true) := by show _ = _; rw [← HYV.out, ← HZ.out, batF_yes HO2.out]; exact bat_same HOK.out HO2.out HPM.out.symm
  have I9 := Lib.hid O9.out.ints
  clear O9
  ((with_reducible refine (batI HZ.out S0.out I9.out hl2).mono ?_); rintro e w5x ⟨AX3, cX3, rfl, ho, hb⟩)
  replace S0 := Lib.hid (S0.out.below hb (Nat.le_refl _))
  replace R0 := Lib.hid (R0.out.below hb (Nat.le_refl _))
  replace X1 := Lib.hid (X1.out.below hb (Nat.le_refl _))
  replace X2 := Lib.hid (X2.out.below hb (Nat.le_refl _))
  replace I9 := Lib.hid (I9.out.below hb (Nat.le_refl _))
  replace B := Lib.hid (B.out.trans (hb.mono B.out.size))
  have z5x := hb.size
  have X3 := Lib.hid ho.row_
  clear ho
  clear hb
  go_wp2_with fail
  ((with_reducible refine (sameI HSV.out X1.out X3.out).mono ?_); rintro e w6 ⟨rfl, hb⟩)
  replace S0 := Lib.hid (S0.out.below hb (Nat.le_refl _))
  replace R0 := Lib.hid (R0.out.below hb (Nat.le_refl _))
  replace X1 := Lib.hid (X1.out.below hb (Nat.le_refl _))
  replace X2 := Lib.hid (X2.out.below hb (Nat.le_refl _))
  replace I9 := Lib.hid (I9.out.below hb (Nat.le_refl _))
  replace X3 := Lib.hid (X3.out.below hb (Nat.le_refl _))
  replace B := Lib.hid (B.out.trans (hb.mono B.out.size))
  have z6 := hb.size
  clear hb
  go_wp2
  go_ret
  exact ⟨rfl, B.out⟩

set_option maxRecDepth 20000 in
set_option maxHeartbeats 4000000 in
theorem fnBatchOther (A : Option Addr) (n c : Nat) (A1 : Option Addr) (n1 c1 : Nat) (w : World) (h : CodeIs w A n c) :
    Calls Try.prog 7 #[.slice A n c, .slice A1 n1 c1] w (TruePost w) := by
  have HC := Lib.hid h
  clear h
  by_cases hn : 1048576 < n
  · go_enter Try.func7, Try.ntmps7
    go_wp2
    go_ret
    exact ⟨rfl, Below.refl _ _⟩
  by_cases hn1 : 1048576 < n1
  · go_enter Try.func7, Try.ntmps7
    go_wp2
    go_ret
    exact ⟨rfl, Below.refl _ _⟩
  have B : Hid (Below w.heap.size w w) := Below.refl _ _
  go_enter Try.func7, Try.ntmps7
  go_wp2_with fail
  ((with_reducible refine (DrawBatchFlows _ _ _ _ HC.out).mono ?_); rintro e w1 ⟨A0, c0, B0, d0, ss, rs, nm, rfl, hx, hy, hb, hl9⟩)
  replace B := Lib.hid (B.out.trans (hb.mono B.out.size))
  have z1 := hb.size
  have S0 := Lib.hid hx
  have R0 := Lib.hid hy
  clear hx hy HC
  clear hb
  obtain ⟨ys, HV⟩ : ∃ ys, Hid (batF ss rs nm = ys) := ⟨_, rfl⟩
  have hl2 : ss.length ≤ 2000000 := by omega
  go_wp2_with fail
  ((with_reducible refine (batI HV.out S0.out R0.out hl2).mono ?_); rintro e w2 ⟨AX1, cX1, rfl, ho, hb⟩)
  replace S0 := Lib.hid (S0.out.below hb (Nat.le_refl _))
  replace R0 := Lib.hid (R0.out.below hb (Nat.le_refl _))
  replace B := Lib.hid (B.out.trans (hb.mono B.out.size))
  have z2 := hb.size
  have X1 := Lib.hid ho.row_
  clear ho
  clear hb
  go_wp2_with fail
  ((with_reducible refine (batS HV.out S0.out R0.out hl2).mono ?_); rintro e w3 ⟨AX2, cX2, rfl, ho, hb⟩)
  replace S0 := Lib.hid (S0.out.below hb (Nat.le_refl _))
  replace R0 := Lib.hid (R0.out.below hb (Nat.le_refl _))
  replace X1 := Lib.hid (X1.out.below hb (Nat.le_refl _))
  replace B := Lib.hid (B.out.trans (hb.mono B.out.size))
  have z3 := hb.size
  have X2 := Lib.hid ho.row_
  clear ho
  clear hb
  have hm1 := X1.out.max_
  have hk1 := X1.out.cap_
  go_wp2_with fail
  ((with_reducible refine (sameT X1.out X2.out).mono ?_); rintro e w4 ⟨rfl, hb⟩)
  replace S0 := Lib.hid (S0.out.below hb (Nat.le_refl _))
  replace R0 := Lib.hid (R0.out.below hb (Nat.le_refl _))
  replace X1 := Lib.hid (X1.out.below hb (Nat.le_refl _))
  replace X2 := Lib.hid (X2.out.below hb (Nat.le_refl _))
  replace B := Lib.hid (B.out.trans (hb.mono B.out.size))
  have z4 := hb.size
  clear hb
  by_cases hx0 : ys.length = 0
  · have e0 : ((ys.length : Int) == 0) = true := by rw [hx0]; rfl
    clear hx0
    go_wp2_with fail
    ((with_reducible refine (sameT X1.out X2.out).mono ?_); rintro e w5 ⟨rfl, hb⟩)
    replace S0 := Lib.hid (S0.out.below hb (Nat.le_refl _))
    replace R0 := Lib.hid (R0.out.below hb (Nat.le_refl _))
    replace X1 := Lib.hid (X1.out.below hb (Nat.le_refl _))
    replace X2 := Lib.hid (X2.out.below hb (Nat.le_refl _))
    replace B := Lib.hid (B.out.trans (hb.mono B.out.size))
    have z5 := hb.size
    clear hb
    go_wp2
    go_ret
    exact ⟨rfl, B.out⟩
  have e0 : ((ys.length : Int) == 0) = false := by rw [beq_eq_false_iff_ne]; omega
  have HOK : Hid (batOk ss rs nm = true) := batF_pos (by rw [HV.out]; exact hx0)
  have HYV : Hid (batL ss rs nm = ys) := by show _ = _; rw [← HV.out, batF_yes HOK.out]
  have HYL : Hid (ys.length = 2 * ss.length) := by show _ = _; rw [← HYV.out, bat_len HOK.out]
  have HBO := Lib.hid (batOk_iff.1 HOK.out)
  have h8 : ss.length ≤ 8 := HBO.out.2.2.2.1
  have hq5 : 0 ≤ nm := HBO.out.2.2.2.2.1
  have hq6 : nm ≤ 990 := HBO.out.2.2.2.2.2
  have HRL : Hid (ss.length = rs.length) := HBO.out.2.2.1
  have hs1 := S0.out.2.1
  have hs2 := S0.out.2.2.1
  have hr1 := R0.out.2.1
  have hr2 := R0.out.2.2.1
  unfold maxLen at hs2 hr2
  have hpos : 0 < ss.length := by have := HYL.out; omega
  have hposr : 0 < rs.length := by have := HRL.out; omega
  clear hx0
  have hn1 : n1 ≤ 1048576 := by omega
  have hz : ((rs.length : Int) == 0) = false := by rw [beq_eq_false_iff_ne]; omega
  have hzz : ¬ (rs.length : Int) = 0 := by omega
  obtain ⟨a, ha, har⟩ : ∃ a : Nat, ((n1 : Nat) : Int).tmod (rs.length : Int) = (a : Int) ∧ a < rs.length := ⟨n1 % rs.length, by rw [Int.tmod_eq_emod_of_nonneg (by omega)]; simp, Nat.mod_lt _ hposr⟩
  obtain ⟨q7, hq7, hq70, hq71⟩ : ∃ q : Int, ((n : Nat) : Int).tmod 7 = q ∧ 0 ≤ q ∧ q ≤ 6 := ⟨_, rfl, Int.tmod_nonneg _ (by omega), by have := Int.tmod_lt_of_pos ((n : Nat) : Int) (show (0 : Int) < 7 by decide); omega⟩
  obtain ⟨hx0, hx7⟩ := all_at HBO.out.2.1 har
  have HA0 := Lib.hid (accR_new none w4)
  have R0a := Lib.hid (R0.out.below ((Below.refl w4.heap.size w4).alloc (Nat.le_refl _) (.cells #[] 3)) (Nat.le_refl _))
  have hr10 : ([] : List Int).length + rs.length ≤ 10000000 := by have := HRL.out; simp; omega
  go_upto_region 10 with (at_builtin; refine wpList_appAny w4 _ _ [] HA0.out _ _ _ _ _ rs R0a.out hr10 _ _ rfl rfl rfl rfl ?_; intro v7 w7 hN7 hB7)
  rw [List.nil_append] at hN7
  obtain ⟨A7, c7, rfl, ho7⟩ := own_of hN7.1
  have hbw : Below w4.heap.size w4 w7 := below_of_grown hN7.2
  have O7 := Lib.hid ho7
  have hc7 := ho7.1.2.1
  have hc8 := ho7.1.2.2.1
  unfold maxLen at hc8
  clear hN7 hB7 ho7 HA0 R0a hr10
  have R7 := R0.out.below hbw (Nat.le_refl _)
  obtain ⟨bR, oR, rfl, _, hbR, cb⟩ := R7.at_ har
  obtain ⟨bX, oX, rfl, hbX, _, xa⟩ := O7.out.1.at_ har
  have fa := O7.out.2 bX oX (by omega) rfl a har
  obtain ⟨y, hy⟩ : ∃ y, (rs.getD a 0 + 1 + q7).tmod 8 = y := ⟨_, rfl⟩
  have hyy : (0 ≤ y ∧ y ≤ 7) ∧ y ≠ rs.getD a 0 := by rw [← hy, Int.tmod_eq_emod_of_nonneg (by omega)]; omega
  have ew1 : IntKind.i64.wrap (rs.getD a 0 + 1) = rs.getD a 0 + 1 := IntWalk.i64_in _ (by omega)
  have ew2 : IntKind.i64.wrap (rs.getD a 0 + 1 + q7) = rs.getD a 0 + 1 + q7 := IntWalk.i64_in _ (by omega)
  have O9 := Lib.hid (O7.out.set_ har y)
  have hb9 : Below w4.heap.size w4 (w7.setCell ⟨bX, oX + a, none⟩ (.int .i64 y)) := hbw.setCell (p := ⟨bX, oX + a, none⟩) hbX _
  have HPM := Lib.hid (set_other har hyy.2)
  have HAL : Hid ((rs.set a y).all inName = true) := all_set HBO.out.2.1 (inName_iff.2 hyy.1)
  have HQL : Hid ((rs.set a y).length = rs.length) := List.length_set ..
  clear hyy
  generalize rs.getD a 0 = ra at *
  generalize rs.set a y = qs at *
  go_wp2_with fail
  clear cb xa fa R7 O7 hbw ew1 ew2
  generalize w7.setCell ⟨bX, oX + a, none⟩ (.int .i64 y) = w9 at *
  replace S0 := Lib.hid (S0.out.below hb9 (Nat.le_refl _))
  replace R0 := Lib.hid (R0.out.below hb9 (Nat.le_refl _))
  replace X1 := Lib.hid (X1.out.below hb9 (Nat.le_refl _))
  replace X2 := Lib.hid (X2.out.below hb9 (Nat.le_refl _))
  replace B := Lib.hid (B.out.trans (hb9.mono B.out.size))
  clear hb9
  have HO2 : Hid (batOk ss qs nm = true) := batOk_iff.2 ⟨HBO.out.1, HAL.out, by rw [HQL.out]; exact HBO.out.2.2.1, h8, hq5, hq6⟩
  obtain ⟨zs, HZ⟩ : ∃ zs, Hid (batF ss qs nm = zs) := ⟨_, rfl⟩
  have HSV : Hid (sameV ys zs = false) := by show _ = _; rw [← HYV.out, ← HZ.out, batF_yes HO2.out]; exact bat_diff HOK.out HO2.out HPM.out
  have I9 := Lib.hid O9.out.ints
  clear O9
  ((with_reducible refine (batI HZ.out S0.out I9.out hl2).mono ?_); rintro e w5x ⟨AX3, cX3, rfl, ho, hb⟩)
  replace S0 := Lib.hid (S0.out.below hb (Nat.le_refl _))
  replace R0 := Lib.hid (R0.out.below hb (Nat.le_refl _))
  replace X1 := Lib.hid (X1.out.below hb (Nat.le_refl _))
  replace X2 := Lib.hid (X2.out.below hb (Nat.le_refl _))
  replace I9 := Lib.hid (I9.out.below hb (Nat.le_refl _))
  replace B := Lib.hid (B.out.trans (hb.mono B.out.size))
  have z5x := hb.size
  have X3 := Lib.hid ho.row_
  clear ho
  clear hb
  go_wp2_with fail
  ((with_reducible refine (sameI HSV.out X1.out X3.out).mono ?_); rintro e w6 ⟨rfl, hb⟩)
  replace S0 := Lib.hid (S0.out.below hb (Nat.le_refl _))
  replace R0 := Lib.hid (R0.out.below hb (Nat.le_refl _))
  replace X1 := Lib.hid (X1.out.below hb (Nat.le_refl _))
  replace X2 := Lib.hid (X2.out.below hb (Nat.le_refl _))
  replace I9 := Lib.hid (I9.out.below hb (Nat.le_refl _))
  replace X3 := Lib.hid (X3.out.below hb (Nat.le_refl _))
  replace B := Lib.hid (B.out.trans (hb.mono B.out.size))
  have z6 := hb.size
  clear hb
  go_wp2
  go_ret
  exact ⟨rfl, B.out⟩

set_option maxRecDepth 20000 in
set_option maxHeartbeats 4000000 in
theorem fnBatchTwo (A : Option Addr) (n c : Nat) (w : World) (h : CodeIs w A n c) :
    Calls Try.prog 8 #[.slice A n c] w (TruePost w) := by
  have HC := Lib.hid h
  clear h
  by_cases hn : 1048576 < n
  · go_enter Try.func8, Try.ntmps8
    go_wp2
    go_ret
    exact ⟨rfl, Below.refl _ _⟩
  have B : Hid (Below w.heap.size w w) := Below.refl _ _
  go_enter Try.func8, Try.ntmps8
  go_wp2_with fail
  ((with_reducible refine (DrawBatchFlows _ _ _ _ HC.out).mono ?_); rintro e w1 ⟨A0, c0, B0, d0, ss, rs, nm, rfl, hx, hy, hb, hl9⟩)
  replace B := Lib.hid (B.out.trans (hb.mono B.out.size))
  have z1 := hb.size
  have S0 := Lib.hid hx
  have R0 := Lib.hid hy
  clear hx hy HC
  clear hb
  obtain ⟨ys, HV⟩ : ∃ ys, Hid (batF ss rs nm = ys) := ⟨_, rfl⟩
  have hl2 : ss.length ≤ 2000000 := by omega
  go_wp2_with fail
  ((with_reducible refine (batI HV.out S0.out R0.out hl2).mono ?_); rintro e w2 ⟨AX1, cX1, rfl, ho, hb⟩)
  replace S0 := Lib.hid (S0.out.below hb (Nat.le_refl _))
  replace R0 := Lib.hid (R0.out.below hb (Nat.le_refl _))
  replace B := Lib.hid (B.out.trans (hb.mono B.out.size))
  have z2 := hb.size
  have X1 := Lib.hid ho.row_
  clear ho
  clear hb
  go_wp2_with fail
  ((with_reducible refine (batS HV.out S0.out R0.out hl2).mono ?_); rintro e w3 ⟨AX2, cX2, rfl, ho, hb⟩)
  replace S0 := Lib.hid (S0.out.below hb (Nat.le_refl _))
  replace R0 := Lib.hid (R0.out.below hb (Nat.le_refl _))
  replace X1 := Lib.hid (X1.out.below hb (Nat.le_refl _))
  replace B := Lib.hid (B.out.trans (hb.mono B.out.size))
  have z3 := hb.size
  have X2 := Lib.hid ho.row_
  clear ho
  clear hb
  have hm1 := X1.out.max_
  have hk1 := X1.out.cap_
  go_wp2_with fail
  ((with_reducible refine (sameT X1.out X2.out).mono ?_); rintro e w4 ⟨rfl, hb⟩)
  replace S0 := Lib.hid (S0.out.below hb (Nat.le_refl _))
  replace R0 := Lib.hid (R0.out.below hb (Nat.le_refl _))
  replace X1 := Lib.hid (X1.out.below hb (Nat.le_refl _))
  replace X2 := Lib.hid (X2.out.below hb (Nat.le_refl _))
  replace B := Lib.hid (B.out.trans (hb.mono B.out.size))
  have z4 := hb.size
  clear hb
  by_cases hx0 : ys.length = 0
  · have e0 : ((ys.length : Int) == 0) = true := by rw [hx0]; rfl
    clear hx0
    go_wp2_with fail
    ((with_reducible refine (sameT X1.out X2.out).mono ?_); rintro e w5 ⟨rfl, hb⟩)
    replace S0 := Lib.hid (S0.out.below hb (Nat.le_refl _))
    replace R0 := Lib.hid (R0.out.below hb (Nat.le_refl _))
    replace X1 := Lib.hid (X1.out.below hb (Nat.le_refl _))
    replace X2 := Lib.hid (X2.out.below hb (Nat.le_refl _))
    replace B := Lib.hid (B.out.trans (hb.mono B.out.size))
    have z5 := hb.size
    clear hb
    go_wp2
    go_ret
    exact ⟨rfl, B.out⟩
  have e0 : ((ys.length : Int) == 0) = false := by rw [beq_eq_false_iff_ne]; omega
  have HOK : Hid (batOk ss rs nm = true) := batF_pos (by rw [HV.out]; exact hx0)
  have HYV : Hid (batL ss rs nm = ys) := by show _ = _; rw [← HV.out, batF_yes HOK.out]
  have HYL : Hid (ys.length = 2 * ss.length) := by show _ = _; rw [← HYV.out, bat_len HOK.out]
  have HBO := Lib.hid (batOk_iff.1 HOK.out)
  have h8 : ss.length ≤ 8 := HBO.out.2.2.2.1
  have hq5 : 0 ≤ nm := HBO.out.2.2.2.2.1
  have hq6 : nm ≤ 990 := HBO.out.2.2.2.2.2
  have HRL : Hid (ss.length = rs.length) := HBO.out.2.2.1
  have hs1 := S0.out.2.1
  have hs2 := S0.out.2.2.1
  have hr1 := R0.out.2.1
  have hr2 := R0.out.2.2.1
  unfold maxLen at hs2 hr2
  have hpos : 0 < ss.length := by have := HYL.out; omega
  have hposr : 0 < rs.length := by have := HRL.out; omega
  clear hx0
  have hy16 : ys.length ≤ 16 := by have := HYL.out; omega
  have ew : IntKind.i64.wrap (2 * (ys.length : Int)) = 2 * (ys.length : Int) := IntWalk.i64_in _ (by omega)
  have ew2 : IntKind.i64.wrap (nm + (ys.length : Int)) = nm + (ys.length : Int) := IntWalk.i64_in _ (by omega)
  by_cases h16 : 2 * ys.length ≤ 16
  case neg =>
    have d16 : decide (16 < 2 * (ys.length : Int)) = true := by simp; omega
    clear h16
    go_wp2_with fail
    ((with_reducible refine (sameT X1.out X2.out).mono ?_); rintro e w5 ⟨rfl, hb⟩)
    replace S0 := Lib.hid (S0.out.below hb (Nat.le_refl _))
    replace R0 := Lib.hid (R0.out.below hb (Nat.le_refl _))
    replace X1 := Lib.hid (X1.out.below hb (Nat.le_refl _))
    replace X2 := Lib.hid (X2.out.below hb (Nat.le_refl _))
    replace B := Lib.hid (B.out.trans (hb.mono B.out.size))
    have z5 := hb.size
    clear hb
    go_wp2
    go_ret
    exact ⟨rfl, B.out⟩
  have d16 : decide (16 < 2 * (ys.length : Int)) = false := by simp; omega
  by_cases h99 : nm + (ys.length : Int) < 991
  case neg =>
    have d99 : decide (991 ≤ nm + (ys.length : Int)) = true := by simp; omega
    clear h99
    go_wp2_with fail
    ((with_reducible refine (sameT X1.out X2.out).mono ?_); rintro e w5 ⟨rfl, hb⟩)
    replace S0 := Lib.hid (S0.out.below hb (Nat.le_refl _))
    replace R0 := Lib.hid (R0.out.below hb (Nat.le_refl _))
    replace X1 := Lib.hid (X1.out.below hb (Nat.le_refl _))
    replace X2 := Lib.hid (X2.out.below hb (Nat.le_refl _))
    replace B := Lib.hid (B.out.trans (hb.mono B.out.size))
    have z5 := hb.size
    clear hb
    go_wp2
    go_ret
    exact ⟨rfl, B.out⟩
  have d99 : decide (991 ≤ nm + (ys.length : Int)) = false := by simp; omega
  have HO2 : Hid (batOk ss rs (nm + (ys.length : Int)) = true) := batOk_iff.2 ⟨HBO.out.1, HBO.out.2.1, HBO.out.2.2.1, h8, by omega, by omega⟩
  obtain ⟨zs, HZ⟩ : ∃ zs, Hid (batF ss rs (nm + (ys.length : Int)) = zs) := ⟨_, rfl⟩
  have HZL : Hid (batL ss rs (nm + (ys.length : Int)) = zs) := by show _ = _; rw [← HZ.out, batF_yes HO2.out]
  have HZN : Hid (zs.length = 2 * ss.length) := by show _ = _; rw [← HZL.out, bat_len HO2.out]
  have HTW := Lib.hid (bat_two HOK.out HO2.out (by have := HYL.out; omega) (by have := HYL.out; omega))
  rw [HYV.out, HZL.out] at HTW
  go_wp2_with fail
  ((with_reducible refine (batI HZ.out S0.out R0.out hl2).mono ?_); rintro e w5 ⟨AX3, cX3, rfl, ho, hb⟩)
  replace S0 := Lib.hid (S0.out.below hb (Nat.le_refl _))
  replace R0 := Lib.hid (R0.out.below hb (Nat.le_refl _))
  replace X1 := Lib.hid (X1.out.below hb (Nat.le_refl _))
  replace X2 := Lib.hid (X2.out.below hb (Nat.le_refl _))
  replace B := Lib.hid (B.out.trans (hb.mono B.out.size))
  have z5 := hb.size
  have X3 := Lib.hid ho.row_
  clear ho
  clear hb
  obtain ⟨vs, HVS⟩ : ∃ vs, Hid (viewF (ys ++ zs) = vs) := ⟨_, rfl⟩
  have HVL : Hid (viewL (ys ++ zs) = vs) := by show _ = _; rw [← HVS.out, viewF_yes HTW.out.1]
  have HVN : Hid (vs.length = 2 * ys.length) := by show _ = _; rw [← HVL.out, view_len, List.length_append, HYL.out, HZN.out]; omega
  have HA0 := Lib.hid (Fc.acc_new w5)
  have X1a := Lib.hid (X1.out.below ((Below.refl w5.heap.size w5).alloc (Nat.le_refl _) (.cells #[] 30)) (Nat.le_refl _))
  have HX3 : Hid (∀ wr, Below w5.heap.size w5 wr → Fls _ _ wr AX3 zs.length cX3 zs) := fun wr h => X3.out.below h (Nat.le_refl _)
  have hl1 : ([] : List Fl).length + ys.length ≤ 1000000 := by simp; omega
  have hl3 : ys.length + zs.length ≤ 1000000 := by have := HZN.out; omega
  clear ew ew2
  go_wp2_with (first
    | (at_builtin; refine Fc.wpList_cAppL w5 _ _ ys HA1.out _ _ _ _ _ zs X3a.out hl3 _ _ rfl rfl rfl rfl ?_; intro v6 wY hN6 hB6
       obtain ⟨A6, c6, rfl, ho6, hb6⟩ := hN6.own)
    | (at_builtin; refine Fc.wpList_cAppL w5 _ _ [] HA0.out _ _ _ _ _ ys X1a.out hl1 _ _ rfl rfl rfl rfl ?_; intro v5 wX hN5 hB5
       rw [List.nil_append] at hN5
       have HA1 := Lib.hid hN5
       have X3a := Lib.hid (HX3.out _ hN5.below)))
  have X6 := Lib.hid ho6.row_
  rw [List.length_append] at X6
  replace B := Lib.hid (B.out.trans (hb6.mono B.out.size))
  clear ho6 hb6 hN6 hB6 HA0 HA1 X1a X3a HX3 S0 R0 X1 X2 X3
  ((with_reducible refine (viewI HVS.out X6.out).mono ?_); rintro e w6x ⟨A9, c9, rfl, ho, hb⟩)
  replace X6 := Lib.hid (X6.out.below hb (Nat.le_refl _))
  replace B := Lib.hid (B.out.trans (hb.mono B.out.size))
  have z6x := hb.size
  have X9 := Lib.hid ho.row_
  clear ho
  clear hb
  have hk9 := X9.out.cap_
  have hm9 := X9.out.max_
  have ew : IntKind.i64.wrap (2 * (ys.length : Int)) = 2 * (ys.length : Int) := IntWalk.i64_in _ (by omega)
  go_wp2
  go_loop [10] (fun i => ∃ k : Nat, k ≤ vs.length ∧ i = .int .i64 (k : Int)) (fun i => vs.length - (intOf i).toNat)
  case atStart => exact ⟨0, Nat.zero_le _, rfl⟩
  case round =>
    obtain ⟨k, hk, rfl⟩ := hrel
    by_cases hlt : k < vs.length
    · obtain ⟨b9, o9, rfl, _, _, _, -, -, p2⟩ := X9.out.at_ hlt
      have HP : Hid ((flAt vs k).nm = (k : Int)) := by
        show _ = _
        rw [← HVL.out]
        exact HTW.out.2 k (by have := HVN.out; have := HYL.out; omega)
      rw [HP.out] at p2
      have hb : ((k : Int) != (k : Int)) = false := by simp
      clear HP
      go_wp2
      go_round
      case rel => exact ⟨k + 1, by omega, by go_num⟩
      case measure => simp [intOf]; omega
    · obtain rfl : k = vs.length := by omega
      have hbe : ((vs.length : Int) == 2 * (ys.length : Int)) = true := by rw [HVN.out]; simp
      clear hlt
      go_wp2
      go_ret
      exact ⟨rfl, B.out⟩

end Law13
end Go.Proofs.Ytcbhjnjallnidab
