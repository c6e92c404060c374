/-
  Laws of chapter 32 on views: each returns true and writes nothing that was there.
-/
import Derived.Test.YtcbhjnjallnidaaIm13c
import Derived.Test.YtcbhjnjallnidaaDr13
import Derived.Test.YtcbhjnjallnidaaIla
import Derived.Deep.RegionLaw
import Derived.Deep.Cut
namespace Go.Proofs.Ytcbhjnjallnidaa
open Go.RowKit
namespace Law13
open Il Sl Fc Fp Pm Sp13 Im13 LawB Rd

section
variable {lo hi l1 h1 l2 h2 n c m d : Nat} {A B : Option Addr} {xs ys zs : List Fl} {w : World} {r : Bool}
theorem viewI (e : viewF xs = ys) (hx : Fls lo hi w A n c xs) : Calls Try.prog 12 #[.slice A n c] w (FlsPost ys w) := e ▸ ViewOf lo hi A n c xs w hx
theorem viewM (e : viewF xs = ys) (hl : ys.length = m) (hx : Fls lo hi w A n c xs) : Calls Try.prog 12 #[.slice A n c] w (FlsPostN m ys w) := (viewI e hx).mono fun _ _ h => fls_n h hl
theorem viewS (e : viewF xs = ys) (hx : Fls lo hi w A n c xs) : Calls Try.prog 13 #[.slice A n c] w (FlsPost ys w) := e ▸ sViewOf lo hi A n c xs w hx
theorem sameI (e : sameV xs ys = r) (hx : Fls l1 h1 w A n c xs) (hy : Fls l2 h2 w B m d ys) : Calls Try.prog 15 #[.slice A n c, .slice B m d] w (BoolB r w) := e ▸ ViewSame l1 h1 l2 h2 A B n c m d xs ys w hx hy
theorem sameS (e : sameV xs ys = r) (hx : Fls l1 h1 w A n c xs) (hy : Fls l2 h2 w B m d ys) : Calls Try.prog 17 #[.slice A n c, .slice B m d] w (BoolB r w) := e ▸ sViewSame l1 h1 l2 h2 A B n c m d xs ys w hx hy
theorem sameT (hx : Fls l1 h1 w A n c xs) (hy : Fls l2 h2 w B m d xs) : Calls Try.prog 14 #[.slice A n c, .slice B m d] w (BoolB true w) :=
  (sameFlows l1 h1 l2 h2 A B n c m d xs xs w hx hy).mono fun _ _ h => by
    obtain ⟨h1, q, rfl⟩ := h
    rw [decide_eq_true rfl] at h1
    exact ⟨h1, bd (Below.refl _ _)⟩
theorem fn_out {e : Ending} {w w' : World} {C : Prop} (h : FlsPostN n xs w e w') (k : ∀ A c, e = .returned (.slice A n c) → FlsO w.heap.size w'.heap.size w' A n c xs → Below w.heap.size w w' → C) : C := by
  obtain ⟨A, c, h1, h2, h3⟩ := h
  exact k A c h1 h2 h3
/-- The list and its view while they are looked at. -/
def LRel (l0 h0 l1 h1 : Nat) (w wr : World) (A B : Option Addr) (n c m d : Nat) (xs ys : List Fl) : Prop := Fls l0 h0 wr A n c xs ∧ Fls l1 h1 wr B m d ys ∧ Below w.heap.size w wr
theorem LRel.dn {wr : World} (h : LRel lo hi l1 h1 w wr A B n c m d xs ys) (q : Nat) : LRel lo hi l1 h1 w (wr.drewN q) A B n c m d xs ys := ⟨h.1, h.2.1, bd h.2.2⟩
end
set_option maxRecDepth 20000 in
set_option maxHeartbeats 4000000 in
theorem fnView (A : Option Addr) (n c : Nat) (w : World) (h : CodeIs w A n c) :
    Calls Try.prog 3 #[.slice A n c] w (TruePost w) := by
  have HC := Lib.hid h
  clear h
  by_cases hn : 1048576 < n
  · go_enter Try.func3, Try.ntmps3
    go_wp2
    go_ret
    exact ⟨rfl, Below.refl _ _⟩
  have B : Hid (Below w.heap.size w w) := Below.refl _ _
  go_enter Try.func3, Try.ntmps3
  go_wp2_with fail
  ((with_reducible refine (DrawViewOf _ _ _ _ HC.out).mono ?_); rintro e w1 ⟨A0, c0, xs, rfl, hsm, hx, hb⟩)
  replace B := Lib.hid (B.out.trans (hb.mono B.out.size))
  have z1 := hb.size
  have X0 := Lib.hid hx
  have SM := Lib.hid hsm
  clear hx hsm HC
  clear hb
  obtain ⟨ys, HV⟩ : ∃ ys, Hid (viewF xs = ys) := ⟨_, rfl⟩
  go_wp2_with fail
  ((with_reducible refine (viewI HV.out X0.out).mono ?_); rintro e w2 ⟨AX1, cX1, rfl, ho, hb⟩)
  replace X0 := Lib.hid (X0.out.below hb (Nat.le_refl _))
  replace B := Lib.hid (B.out.trans (hb.mono B.out.size))
  have z2 := hb.size
  have X1 := Lib.hid ho.row_
  clear ho
  clear hb
  go_wp2_with fail
  ((with_reducible refine (viewS HV.out X0.out).mono ?_); rintro e w3 ⟨AX2, cX2, rfl, ho, hb⟩)
  replace X0 := Lib.hid (X0.out.below hb (Nat.le_refl _))
  replace X1 := Lib.hid (X1.out.below hb (Nat.le_refl _))
  replace B := Lib.hid (B.out.trans (hb.mono B.out.size))
  have z3 := hb.size
  have X2 := Lib.hid ho.row_
  clear ho
  clear hb
  go_wp2_with fail
  ((with_reducible refine (sameT X1.out X2.out).mono ?_); rintro e w4 ⟨rfl, hb⟩)
  replace X0 := Lib.hid (X0.out.below hb (Nat.le_refl _))
  replace X1 := Lib.hid (X1.out.below hb (Nat.le_refl _))
  replace X2 := Lib.hid (X2.out.below hb (Nat.le_refl _))
  replace B := Lib.hid (B.out.trans (hb.mono B.out.size))
  have z4 := hb.size
  clear hb
  by_cases hx0 : ys.length = 0
  · have e0 : ((ys.length : Int) == 0) = true := by rw [hx0]; rfl
    clear hx0
    go_wp2_with fail
    ((with_reducible refine (sameT X1.out X2.out).mono ?_); rintro e w5 ⟨rfl, hb⟩)
    replace X0 := Lib.hid (X0.out.below hb (Nat.le_refl _))
    replace X1 := Lib.hid (X1.out.below hb (Nat.le_refl _))
    replace X2 := Lib.hid (X2.out.below hb (Nat.le_refl _))
    replace B := Lib.hid (B.out.trans (hb.mono B.out.size))
    have z5 := hb.size
    clear hb
    go_wp2
    go_ret
    exact ⟨rfl, B.out⟩
  have e0 : ((ys.length : Int) == 0) = false := by rw [beq_eq_false_iff_ne]; omega
  have HOK : Hid (flsOk xs = true) := viewF_pos (by rw [HV.out]; exact hx0)
  have HYV : Hid (viewL xs = ys) := by show _ = _; rw [← HV.out, viewF_yes HOK.out]
  have HYL : Hid (ys.length = xs.length) := by show _ = _; rw [← HYV.out, view_len]
  have h16 : xs.length ≤ 16 := (flsOk_iff.1 HOK.out).2
  have hm1 := X1.out.max_
  have hm0 := X0.out.max_
  have hk1 := X1.out.cap_
  have hk0 := X0.out.cap_
  clear hx0
  go_wp2
  clear e0
  have HR0 : Hid (LRel _ _ _ _ w w4 A0 AX1 xs.length c0 ys.length cX1 xs ys) := ⟨X0.out, X1.out, B.out⟩
  clear X0 X1 X2
  go_loopw [6, 7, 8] (fun nx i _ wr => ∃ k : Nat, k ≤ ys.length ∧ i = .int .i64 (k : Int) ∧ nx = .int .i64 ((cntD (nms xs) k : Nat) : Int) ∧ Hid (LRel _ _ _ _ w wr A0 AX1 xs.length c0 ys.length cX1 xs ys)) (fun _ i _ _ => ys.length - (intOf i).toNat)
  case atStart => exact ⟨0, Nat.zero_le _, rfl, rfl, HR0.out⟩
  case round =>
    obtain ⟨k, hk, rfl, rfl, hR⟩ := hrel
    clear HR0
    by_cases hlt : k < ys.length
    · have hkx : k < xs.length := by have := HYL.out; omega
      have HZ : Hid ((flAt ys k).nm = numAt (nms xs) k) := by show _ = _; rw [← HYV.out, view_at hkx]; rfl
      have HPR : Hid (∀ t, t < k → ((flAt ys t).nm == numAt (nms xs) k) = ((flAt xs t).nm == (flAt xs k).nm)) := fun t ht => by
        rw [← HYV.out, view_at (by omega)]
        show (numAt (nms xs) t == numAt (nms xs) k) = _
        rw [Bool.eq_iff_iff, beq_iff_eq, beq_iff_eq]
        exact view_nm (by omega) hkx
      obtain ⟨hz0, hz1⟩ := numAt_le (nms xs) k
      have hcn := cntD_le (nms xs) k
      have HC := Lib.hid (cntD_succ (xs := nms xs) (i := k) (by rw [nms_len]; exact hkx))
      obtain ⟨b1, o1, rfl, _, _, _, -, -, p2⟩ := hR.out.2.1.at_ hlt
      obtain ⟨b0, o0, rfl, _, _, _, -, -, r2⟩ := hR.out.1.at_ hkx
      rw [HZ.out] at p2
      generalize numAt (nms xs) k = z at *
      obtain ⟨cn, hcc⟩ : ∃ cn, cntD (nms xs) k = cn := ⟨_, rfl⟩
      rw [hcc] at HC hz1 hcn ⊢
      clear hcc
      have d1 : decide ((cn : Int) < z) = false := by simp; omega
      by_cases hzc : z = (cn : Int)
      · have HCS : Hid (cntD (nms xs) (k + 1) = cn + 1) := by show _ = _; rw [HC.out, if_pos hzc]
        have d2 : (z == (cn : Int)) = true := by simpa using hzc
        clear hzc HC
        go_wp2
        go_loopw [8] (fun j wr => ∃ t : Nat, t ≤ k ∧ j = .int .i64 (t : Int) ∧ Hid (LRel _ _ _ _ w wr (some ⟨b0, o0, none⟩) (some ⟨b1, o1, none⟩) xs.length c0 ys.length cX1 xs ys)) (fun j _ => k - (intOf j).toNat)
        case atStart => exact ⟨0, Nat.zero_le _, rfl, hR.out⟩
        case round =>
          obtain ⟨t, ht, rfl, hT⟩ := hrel
          clear hR
          by_cases htk : t < k
          · have htx : t < xs.length := by omega
            have hty : t < ys.length := by omega
            have HPA := Lib.hid (HPR.out t htk)
            obtain ⟨_, _, e1, _, _, _, -, -, p2⟩ := hT.out.2.1.at_ hty
            simp only [Option.some.injEq, Addr.mk.injEq, and_true] at e1
            obtain ⟨rfl, rfl⟩ := e1
            obtain ⟨_, _, e1, _, _, _, -, -, q2⟩ := hT.out.2.1.at_ hlt
            simp only [Option.some.injEq, Addr.mk.injEq, and_true] at e1
            obtain ⟨rfl, rfl⟩ := e1
            obtain ⟨_, _, e1, _, _, _, -, -, r2⟩ := hT.out.1.at_ htx
            simp only [Option.some.injEq, Addr.mk.injEq, and_true] at e1
            obtain ⟨rfl, rfl⟩ := e1
            obtain ⟨_, _, e1, _, _, _, -, -, s2⟩ := hT.out.1.at_ hkx
            simp only [Option.some.injEq, Addr.mk.injEq, and_true] at e1
            obtain ⟨rfl, rfl⟩ := e1
            rw [HZ.out] at q2
            generalize (flAt ys t).nm = a at *
            generalize (flAt xs t).nm = c at *
            generalize (flAt xs k).nm = d at *
            have HT2 : Hid (∀ q, LRel _ _ _ _ w (wr.drewN q) (some ⟨b0, o0, none⟩) (some ⟨b1, o1, none⟩) xs.length c0 ys.length cX1 xs ys) := fun q => hT.out.dn q
            clear hT
            cases hb : (a == z)
            · have hb2 : (c == d) = false := by rw [← HPA.out]; exact hb
              go_wp2
              go_quiet (fail)
              clear p2 q2 r2 s2 hb hb2
              go_wp2
              go_roundw
              case rel => exact ⟨t + 1, by omega, by go_num, HT2.out _⟩
              case measure => simp [intOf]; omega
            · have hb2 : (c == d) = true := by rw [← HPA.out]; exact hb
              go_wp2
              go_quiet (fail)
              clear p2 q2 r2 s2 hb hb2
              go_wp2
              go_roundw
              case rel => exact ⟨t + 1, by omega, by go_num, HT2.out _⟩
              case measure => simp [intOf]; omega
          · obtain rfl : t = k := by omega
            clear htk
            go_wp2
            go_roundw
            case rel => exact ⟨t + 1, by omega, by go_num, by rw [HCS.out] <;> first | rfl | go_num, hT.out⟩
            case measure => simp [intOf]; omega
      · have HCS : Hid (cntD (nms xs) (k + 1) = cn) := by show _ = _; rw [HC.out, if_neg hzc]
        have d2 : (z == (cn : Int)) = false := by simpa using hzc
        clear hzc HC
        go_wp2
        go_loopw [8] (fun j wr => ∃ t : Nat, t ≤ k ∧ j = .int .i64 (t : Int) ∧ Hid (LRel _ _ _ _ w wr (some ⟨b0, o0, none⟩) (some ⟨b1, o1, none⟩) xs.length c0 ys.length cX1 xs ys)) (fun j _ => k - (intOf j).toNat)
        case atStart => exact ⟨0, Nat.zero_le _, rfl, hR.out⟩
        case round =>
          obtain ⟨t, ht, rfl, hT⟩ := hrel
          clear hR
          by_cases htk : t < k
          · have htx : t < xs.length := by omega
            have hty : t < ys.length := by omega
            have HPA := Lib.hid (HPR.out t htk)
            obtain ⟨_, _, e1, _, _, _, -, -, p2⟩ := hT.out.2.1.at_ hty
            simp only [Option.some.injEq, Addr.mk.injEq, and_true] at e1
            obtain ⟨rfl, rfl⟩ := e1
            obtain ⟨_, _, e1, _, _, _, -, -, q2⟩ := hT.out.2.1.at_ hlt
            simp only [Option.some.injEq, Addr.mk.injEq, and_true] at e1
            obtain ⟨rfl, rfl⟩ := e1
            obtain ⟨_, _, e1, _, _, _, -, -, r2⟩ := hT.out.1.at_ htx
            simp only [Option.some.injEq, Addr.mk.injEq, and_true] at e1
            obtain ⟨rfl, rfl⟩ := e1
            obtain ⟨_, _, e1, _, _, _, -, -, s2⟩ := hT.out.1.at_ hkx
            simp only [Option.some.injEq, Addr.mk.injEq, and_true] at e1
            obtain ⟨rfl, rfl⟩ := e1
            rw [HZ.out] at q2
            generalize (flAt ys t).nm = a at *
            generalize (flAt xs t).nm = c at *
            generalize (flAt xs k).nm = d at *
            have HT2 : Hid (∀ q, LRel _ _ _ _ w (wr.drewN q) (some ⟨b0, o0, none⟩) (some ⟨b1, o1, none⟩) xs.length c0 ys.length cX1 xs ys) := fun q => hT.out.dn q
            clear hT
            cases hb : (a == z)
            · have hb2 : (c == d) = false := by rw [← HPA.out]; exact hb
              go_wp2
              go_quiet (fail)
              clear p2 q2 r2 s2 hb hb2
              go_wp2
              go_roundw
              case rel => exact ⟨t + 1, by omega, by go_num, HT2.out _⟩
              case measure => simp [intOf]; omega
            · have hb2 : (c == d) = true := by rw [← HPA.out]; exact hb
              go_wp2
              go_quiet (fail)
              clear p2 q2 r2 s2 hb hb2
              go_wp2
              go_roundw
              case rel => exact ⟨t + 1, by omega, by go_num, HT2.out _⟩
              case measure => simp [intOf]; omega
          · obtain rfl : t = k := by omega
            clear htk
            go_wp2
            go_roundw
            case rel => exact ⟨t + 1, by omega, by go_num, by rw [HCS.out] <;> first | rfl | go_num, hT.out⟩
            case measure => simp [intOf]; omega
    · have d9 : ((ys.length : Int) == (xs.length : Int)) = true := by rw [HYL.out]; exact beq_self_eq_true _
      obtain rfl : k = ys.length := by omega
      clear hlt
      go_wp2
      go_ret
      exact ⟨rfl, hR.out.2.2⟩

set_option maxRecDepth 20000 in
set_option maxHeartbeats 2000000 in
theorem fnViewKeeps (A : Option Addr) (n c : Nat) (w : World) (h : CodeIs w A n c) :
    Calls Try.prog 4 #[.slice A n c] w (TruePost w) := by
  have HC := Lib.hid h
  clear h
  by_cases hn : 1048576 < n
  · go_enter Try.func4, Try.ntmps4
    go_wp2
    go_ret
    exact ⟨rfl, Below.refl _ _⟩
  have B : Hid (Below w.heap.size w w) := Below.refl _ _
  go_enter Try.func4, Try.ntmps4
  go_wp2_with fail
  ((with_reducible refine (DrawViewOf _ _ _ _ HC.out).mono ?_); rintro e w1 ⟨A0, c0, xs, rfl, hsm, hx, hb⟩)
  replace B := Lib.hid (B.out.trans (hb.mono B.out.size))
  have z1 := hb.size
  have X0 := Lib.hid hx
  have SM := Lib.hid hsm
  clear hx hsm HC
  clear hb
  obtain ⟨ys, HV⟩ : ∃ ys, Hid (viewF xs = ys) := ⟨_, rfl⟩
  go_wp2_with fail
  ((with_reducible refine (viewI HV.out X0.out).mono ?_); rintro e w2 ⟨AX1, cX1, rfl, ho, hb⟩)
  replace X0 := Lib.hid (X0.out.below hb (Nat.le_refl _))
  replace B := Lib.hid (B.out.trans (hb.mono B.out.size))
  have z2 := hb.size
  have X1 := Lib.hid ho.row_
  clear ho
  clear hb
  go_wp2_with fail
  ((with_reducible refine (viewS HV.out X0.out).mono ?_); rintro e w3 ⟨AX2, cX2, rfl, ho, hb⟩)
  replace X0 := Lib.hid (X0.out.below hb (Nat.le_refl _))
  replace X1 := Lib.hid (X1.out.below hb (Nat.le_refl _))
  replace B := Lib.hid (B.out.trans (hb.mono B.out.size))
  have z3 := hb.size
  have X2 := Lib.hid ho.row_
  clear ho
  clear hb
  go_wp2_with fail
  ((with_reducible refine (sameT X1.out X2.out).mono ?_); rintro e w4 ⟨rfl, hb⟩)
  replace X0 := Lib.hid (X0.out.below hb (Nat.le_refl _))
  replace X1 := Lib.hid (X1.out.below hb (Nat.le_refl _))
  replace X2 := Lib.hid (X2.out.below hb (Nat.le_refl _))
  replace B := Lib.hid (B.out.trans (hb.mono B.out.size))
  have z4 := hb.size
  clear hb
  by_cases hx0 : ys.length = 0
  · have e0 : ((ys.length : Int) == 0) = true := by rw [hx0]; rfl
    clear hx0
    go_wp2_with fail
    ((with_reducible refine (sameT X1.out X2.out).mono ?_); rintro e w5 ⟨rfl, hb⟩)
    replace X0 := Lib.hid (X0.out.below hb (Nat.le_refl _))
    replace X1 := Lib.hid (X1.out.below hb (Nat.le_refl _))
    replace X2 := Lib.hid (X2.out.below hb (Nat.le_refl _))
    replace B := Lib.hid (B.out.trans (hb.mono B.out.size))
    have z5 := hb.size
    clear hb
    go_wp2
    go_ret
    exact ⟨rfl, B.out⟩
  have e0 : ((ys.length : Int) == 0) = false := by rw [beq_eq_false_iff_ne]; omega
  have HOK : Hid (flsOk xs = true) := viewF_pos (by rw [HV.out]; exact hx0)
  have HYV : Hid (viewL xs = ys) := by show _ = _; rw [← HV.out, viewF_yes HOK.out]
  have HYL : Hid (ys.length = xs.length) := by show _ = _; rw [← HYV.out, view_len]
  have h16 : xs.length ≤ 16 := (flsOk_iff.1 HOK.out).2
  have hm1 := X1.out.max_
  have hm0 := X0.out.max_
  have hk1 := X1.out.cap_
  have hk0 := X0.out.cap_
  clear hx0
  go_wp2
  clear e0
  have HR0 : Hid (LRel _ _ _ _ w w4 A0 AX1 xs.length c0 ys.length cX1 xs ys) := ⟨X0.out, X1.out, B.out⟩
  clear X0 X1 X2
  go_loopw [6] (fun i wr => ∃ k : Nat, k ≤ ys.length ∧ i = .int .i64 (k : Int) ∧ Hid (LRel _ _ _ _ w wr A0 AX1 xs.length c0 ys.length cX1 xs ys)) (fun i _ => ys.length - (intOf i).toNat)
  case atStart => exact ⟨0, Nat.zero_le _, rfl, HR0.out⟩
  case round =>
    obtain ⟨k, hk, rfl, hR⟩ := hrel
    clear HR0
    by_cases hlt : k < ys.length
    · have hkx : k < xs.length := by have := HYL.out; omega
      have HZ : Hid ((flAt ys k).fr = (flAt xs k).fr ∧ (flAt ys k).to = (flAt xs k).to) := by show _ ∧ _; rw [← HYV.out, view_at hkx]; exact ⟨rfl, rfl⟩
      obtain ⟨b1, o1, rfl, _, _, _, p0, p1, p2⟩ := hR.out.2.1.at_ hlt
      obtain ⟨b0, o0, rfl, _, _, _, r0, r1, r2⟩ := hR.out.1.at_ hkx
      rw [HZ.out.1] at p0
      rw [HZ.out.2] at p1
      have HT2 : Hid (∀ q, LRel _ _ _ _ w (wr.drewN q) (some ⟨b0, o0, none⟩) (some ⟨b1, o1, none⟩) xs.length c0 ys.length cX1 xs ys) := fun q => hR.out.dn q
      clear hR HZ p2 r2
      generalize (flAt xs k).fr = f at *
      generalize (flAt xs k).to = t at *
      have q0 : (f != f) = false := by simp
      have q1 : (t != t) = false := by simp
      go_wp2
      go_quiet (fail)
      clear p0 p1 r0 r1
      go_wp2
      go_roundw
      case rel => exact ⟨k + 1, by omega, by go_num, HT2.out _⟩
      case measure => simp [intOf]; omega
    · obtain rfl : k = ys.length := by omega
      clear hlt
      go_wp2
      go_ret
      exact ⟨rfl, hR.out.2.2⟩

set_option maxRecDepth 20000 in
set_option maxHeartbeats 2000000 in
theorem fnViewTwice (A : Option Addr) (n c : Nat) (w : World) (h : CodeIs w A n c) :
    Calls Try.prog 5 #[.slice A n c] w (TruePost w) := by
  have HC := Lib.hid h
  clear h
  by_cases hn : 1048576 < n
  · go_enter Try.func5, Try.ntmps5
    go_wp2
    go_ret
    exact ⟨rfl, Below.refl _ _⟩
  have B : Hid (Below w.heap.size w w) := Below.refl _ _
  go_enter Try.func5, Try.ntmps5
  go_wp2_with fail
  ((with_reducible refine (DrawViewOf _ _ _ _ HC.out).mono ?_); rintro e w1 ⟨A0, c0, xs, rfl, hsm, hx, hb⟩)
  replace B := Lib.hid (B.out.trans (hb.mono B.out.size))
  have z1 := hb.size
  have X0 := Lib.hid hx
  have SM := Lib.hid hsm
  clear hx hsm HC
  clear hb
  obtain ⟨ys, HV⟩ : ∃ ys, Hid (viewF xs = ys) := ⟨_, rfl⟩
  go_wp2_with fail
  ((with_reducible refine (viewI HV.out X0.out).mono ?_); rintro e w2 ⟨AX1, cX1, rfl, ho, hb⟩)
  replace X0 := Lib.hid (X0.out.below hb (Nat.le_refl _))
  replace B := Lib.hid (B.out.trans (hb.mono B.out.size))
  have z2 := hb.size
  have X1 := Lib.hid ho.row_
  clear ho
  clear hb
  go_wp2_with fail
  ((with_reducible refine (viewS HV.out X0.out).mono ?_); rintro e w3 ⟨AX2, cX2, rfl, ho, hb⟩)
  replace X0 := Lib.hid (X0.out.below hb (Nat.le_refl _))
  replace X1 := Lib.hid (X1.out.below hb (Nat.le_refl _))
  replace B := Lib.hid (B.out.trans (hb.mono B.out.size))
  have z3 := hb.size
  have X2 := Lib.hid ho.row_
  clear ho
  clear hb
  go_wp2_with fail
  ((with_reducible refine (sameT X1.out X2.out).mono ?_); rintro e w4 ⟨rfl, hb⟩)
  replace X0 := Lib.hid (X0.out.below hb (Nat.le_refl _))
  replace X1 := Lib.hid (X1.out.below hb (Nat.le_refl _))
  replace X2 := Lib.hid (X2.out.below hb (Nat.le_refl _))
  replace B := Lib.hid (B.out.trans (hb.mono B.out.size))
  have z4 := hb.size
  clear hb
  by_cases hx0 : ys.length = 0
  · have e0 : ((ys.length : Int) == 0) = true := by rw [hx0]; rfl
    clear hx0
    go_wp2_with fail
    ((with_reducible refine (sameT X1.out X2.out).mono ?_); rintro e w5 ⟨rfl, hb⟩)
    replace X0 := Lib.hid (X0.out.below hb (Nat.le_refl _))
    replace X1 := Lib.hid (X1.out.below hb (Nat.le_refl _))
    replace X2 := Lib.hid (X2.out.below hb (Nat.le_refl _))
    replace B := Lib.hid (B.out.trans (hb.mono B.out.size))
    have z5 := hb.size
    clear hb
    go_wp2
    go_ret
    exact ⟨rfl, B.out⟩
  have e0 : ((ys.length : Int) == 0) = false := by rw [beq_eq_false_iff_ne]; omega
  have HOK : Hid (flsOk xs = true) := viewF_pos (by rw [HV.out]; exact hx0)
  have HYV : Hid (viewL xs = ys) := by show _ = _; rw [← HV.out, viewF_yes HOK.out]
  have HYL : Hid (ys.length = xs.length) := by show _ = _; rw [← HYV.out, view_len]
  have h16 : xs.length ≤ 16 := (flsOk_iff.1 HOK.out).2
  have hm1 := X1.out.max_
  have hm0 := X0.out.max_
  have hk1 := X1.out.cap_
  have hk0 := X0.out.cap_
  clear hx0
  have HV2 : Hid (viewF ys = ys) := by show _ = _; rw [← HYV.out, viewF_yes (view_ok HOK.out), view_view]
  have HVS : Hid (sameV ys xs = true) := sameV_yes (by rw [← HYV.out]; exact view_ok HOK.out) HOK.out (by rw [← HYV.out, view_view])
  go_wp2_with fail
  ((with_reducible refine (viewI HV2.out X1.out).mono ?_); rintro e w5 ⟨AX3, cX3, rfl, ho, hb⟩)
  replace X0 := Lib.hid (X0.out.below hb (Nat.le_refl _))
  replace X1 := Lib.hid (X1.out.below hb (Nat.le_refl _))
  replace X2 := Lib.hid (X2.out.below hb (Nat.le_refl _))
  replace B := Lib.hid (B.out.trans (hb.mono B.out.size))
  have z5 := hb.size
  have X3 := Lib.hid ho.row_
  clear ho
  clear hb
  go_wp2_with fail
  ((with_reducible refine (sameT X3.out X1.out).mono ?_); rintro e w6 ⟨rfl, hb⟩)
  replace X0 := Lib.hid (X0.out.below hb (Nat.le_refl _))
  replace X1 := Lib.hid (X1.out.below hb (Nat.le_refl _))
  replace X2 := Lib.hid (X2.out.below hb (Nat.le_refl _))
  replace X3 := Lib.hid (X3.out.below hb (Nat.le_refl _))
  replace B := Lib.hid (B.out.trans (hb.mono B.out.size))
  have z6 := hb.size
  clear hb
  go_wp2_with fail
  ((with_reducible refine (sameI HVS.out X1.out X0.out).mono ?_); rintro e w7 ⟨rfl, hb⟩)
  replace X0 := Lib.hid (X0.out.below hb (Nat.le_refl _))
  replace X1 := Lib.hid (X1.out.below hb (Nat.le_refl _))
  replace X2 := Lib.hid (X2.out.below hb (Nat.le_refl _))
  replace X3 := Lib.hid (X3.out.below hb (Nat.le_refl _))
  replace B := Lib.hid (B.out.trans (hb.mono B.out.size))
  have z7 := hb.size
  clear hb
  go_wp2
  go_ret
  exact ⟨rfl, B.out⟩

set_option maxRecDepth 20000 in
set_option maxHeartbeats 2000000 in
theorem fnViewSame (A : Option Addr) (n c : Nat) (w : World) (h : CodeIs w A n c) :
    Calls Try.prog 6 #[.slice A n c] w (TruePost w) := by
  have HC := Lib.hid h
  clear h
  by_cases hn : 1048576 < n
  · go_enter Try.func6, Try.ntmps6
    go_wp2
    go_ret
    exact ⟨rfl, Below.refl _ _⟩
  have B : Hid (Below w.heap.size w w) := Below.refl _ _
  go_enter Try.func6, Try.ntmps6
  go_wp2_with fail
  ((with_reducible refine (DrawViewSame _ _ _ _ HC.out).mono ?_); rintro e w1 ⟨A0, c0, B0, d0, xs, ys, rfl, hx, hy, hb⟩)
  replace B := Lib.hid (B.out.trans (hb.mono B.out.size))
  have z1 := hb.size
  have X0 := Lib.hid hx
  have Y0 := Lib.hid hy
  clear hx hy HC
  clear hb
  obtain ⟨r, HR⟩ : ∃ r, Hid (sameV xs ys = r) := ⟨_, rfl⟩
  have HR2 : Hid (sameV ys xs = r) := by show _ = _; rw [sameV_symm]; exact HR.out
  go_wp2_with fail
  ((with_reducible refine (sameI HR.out X0.out Y0.out).mono ?_); rintro e w2 ⟨rfl, hb⟩)
  replace X0 := Lib.hid (X0.out.below hb (Nat.le_refl _))
  replace Y0 := Lib.hid (Y0.out.below hb (Nat.le_refl _))
  replace B := Lib.hid (B.out.trans (hb.mono B.out.size))
  have z2 := hb.size
  clear hb
  go_wp2_with fail
  ((with_reducible refine (sameS HR.out X0.out Y0.out).mono ?_); rintro e w3 ⟨rfl, hb⟩)
  replace X0 := Lib.hid (X0.out.below hb (Nat.le_refl _))
  replace Y0 := Lib.hid (Y0.out.below hb (Nat.le_refl _))
  replace B := Lib.hid (B.out.trans (hb.mono B.out.size))
  have z3 := hb.size
  clear hb
  cases r
  · go_wp2_with fail
    ((with_reducible refine (sameI HR2.out Y0.out X0.out).mono ?_); rintro e w4 ⟨rfl, hb⟩)
    replace X0 := Lib.hid (X0.out.below hb (Nat.le_refl _))
    replace Y0 := Lib.hid (Y0.out.below hb (Nat.le_refl _))
    replace B := Lib.hid (B.out.trans (hb.mono B.out.size))
    have z4 := hb.size
    clear hb
    go_wp2
    go_ret
    exact ⟨rfl, B.out⟩
  have HW := Lib.hid (sameV_iff.1 HR.out)
  obtain ⟨zs, HZ⟩ : ∃ zs, Hid (viewF xs = zs) := ⟨_, rfl⟩
  have HZ2 : Hid (viewF ys = zs) := by show _ = _; rw [← HZ.out, viewF_yes HW.out.1, viewF_yes HW.out.2.1, HW.out.2.2]
  go_wp2_with fail
  ((with_reducible refine (sameI HR2.out Y0.out X0.out).mono ?_); rintro e w4 ⟨rfl, hb⟩)
  replace X0 := Lib.hid (X0.out.below hb (Nat.le_refl _))
  replace Y0 := Lib.hid (Y0.out.below hb (Nat.le_refl _))
  replace B := Lib.hid (B.out.trans (hb.mono B.out.size))
  have z4 := hb.size
  clear hb
  go_wp2_with fail
  ((with_reducible refine (viewI HZ.out X0.out).mono ?_); rintro e w5 ⟨AX3, cX3, rfl, ho, hb⟩)
  replace X0 := Lib.hid (X0.out.below hb (Nat.le_refl _))
  replace Y0 := Lib.hid (Y0.out.below hb (Nat.le_refl _))
  replace B := Lib.hid (B.out.trans (hb.mono B.out.size))
  have z5 := hb.size
  have X3 := Lib.hid ho.row_
  clear ho
  clear hb
  go_wp2_with fail
  ((with_reducible refine (viewI HZ2.out Y0.out).mono ?_); rintro e w6 ⟨AX4, cX4, rfl, ho, hb⟩)
  replace X0 := Lib.hid (X0.out.below hb (Nat.le_refl _))
  replace Y0 := Lib.hid (Y0.out.below hb (Nat.le_refl _))
  replace X3 := Lib.hid (X3.out.below hb (Nat.le_refl _))
  replace B := Lib.hid (B.out.trans (hb.mono B.out.size))
  have z6 := hb.size
  have X4 := Lib.hid ho.row_
  clear ho
  clear hb
  go_wp2_with fail
  ((with_reducible refine (sameT X3.out X4.out).mono ?_); rintro e w7 ⟨rfl, hb⟩)
  replace X0 := Lib.hid (X0.out.below hb (Nat.le_refl _))
  replace Y0 := Lib.hid (Y0.out.below hb (Nat.le_refl _))
  replace X3 := Lib.hid (X3.out.below hb (Nat.le_refl _))
  replace X4 := Lib.hid (X4.out.below hb (Nat.le_refl _))
  replace B := Lib.hid (B.out.trans (hb.mono B.out.size))
  have z7 := hb.size
  clear hb
  go_wp2
  go_ret
  exact ⟨rfl, B.out⟩

set_option maxRecDepth 20000 in
set_option maxHeartbeats 2000000 in
theorem fnViewRename (A : Option Addr) (n c : Nat) (A1 : Option Addr) (n1 c1 : Nat) (w : World) (h : CodeIs w A n c) :
    Calls Try.prog 7 #[.slice A n c, .slice A1 n1 c1] w (TruePost w) := by
  have HC := Lib.hid h
  clear h
  by_cases hn : 1048576 < n
  · go_enter Try.func7, Try.ntmps7
    go_wp2
    go_ret
    exact ⟨rfl, Below.refl _ _⟩
  by_cases hn1 : 1048576 < n1
  · go_enter Try.func7, Try.ntmps7
    go_wp2
    go_ret
    exact ⟨rfl, Below.refl _ _⟩
  have B : Hid (Below w.heap.size w w) := Below.refl _ _
  go_enter Try.func7, Try.ntmps7
  go_wp2_with fail
  ((with_reducible refine (DrawViewOf _ _ _ _ HC.out).mono ?_); rintro e w1 ⟨A0, c0, xs, rfl, hsm, hx, hb⟩)
  replace B := Lib.hid (B.out.trans (hb.mono B.out.size))
  have z1 := hb.size
  have X0 := Lib.hid hx
  have SM := Lib.hid hsm
  clear hx hsm HC
  clear hb
  obtain ⟨ys, HV⟩ : ∃ ys, Hid (viewF xs = ys) := ⟨_, rfl⟩
  go_wp2_with fail
  ((with_reducible refine (viewI HV.out X0.out).mono ?_); rintro e w2 ⟨AX1, cX1, rfl, ho, hb⟩)
  replace X0 := Lib.hid (X0.out.below hb (Nat.le_refl _))
  replace B := Lib.hid (B.out.trans (hb.mono B.out.size))
  have z2 := hb.size
  have X1 := Lib.hid ho.row_
  clear ho
  clear hb
  go_wp2_with fail
  ((with_reducible refine (viewS HV.out X0.out).mono ?_); rintro e w3 ⟨AX2, cX2, rfl, ho, hb⟩)
  replace X0 := Lib.hid (X0.out.below hb (Nat.le_refl _))
  replace X1 := Lib.hid (X1.out.below hb (Nat.le_refl _))
  replace B := Lib.hid (B.out.trans (hb.mono B.out.size))
  have z3 := hb.size
  have X2 := Lib.hid ho.row_
  clear ho
  clear hb
  go_wp2_with fail
  ((with_reducible refine (sameT X1.out X2.out).mono ?_); rintro e w4 ⟨rfl, hb⟩)
  replace X0 := Lib.hid (X0.out.below hb (Nat.le_refl _))
  replace X1 := Lib.hid (X1.out.below hb (Nat.le_refl _))
  replace X2 := Lib.hid (X2.out.below hb (Nat.le_refl _))
  replace B := Lib.hid (B.out.trans (hb.mono B.out.size))
  have z4 := hb.size
  clear hb
  by_cases hx0 : ys.length = 0
  · have e0 : ((ys.length : Int) == 0) = true := by rw [hx0]; rfl
    clear hx0
    go_wp2_with fail
    ((with_reducible refine (sameT X1.out X2.out).mono ?_); rintro e w5 ⟨rfl, hb⟩)
    replace X0 := Lib.hid (X0.out.below hb (Nat.le_refl _))
    replace X1 := Lib.hid (X1.out.below hb (Nat.le_refl _))
    replace X2 := Lib.hid (X2.out.below hb (Nat.le_refl _))
    replace B := Lib.hid (B.out.trans (hb.mono B.out.size))
    have z5 := hb.size
    clear hb
    go_wp2
    go_ret
    exact ⟨rfl, B.out⟩
  have e0 : ((ys.length : Int) == 0) = false := by rw [beq_eq_false_iff_ne]; omega
  have HOK : Hid (flsOk xs = true) := viewF_pos (by rw [HV.out]; exact hx0)
  have HYV : Hid (viewL xs = ys) := by show _ = _; rw [← HV.out, viewF_yes HOK.out]
  have HYL : Hid (ys.length = xs.length) := by show _ = _; rw [← HYV.out, view_len]
  have h16 : xs.length ≤ 16 := (flsOk_iff.1 HOK.out).2
  have hm1 := X1.out.max_
  have hm0 := X0.out.max_
  have hk1 := X1.out.cap_
  have hk0 := X0.out.cap_
  clear hx0
  have hn1 : n1 ≤ 1048576 := by omega
  have HX : Hid (∀ wr, Below w4.heap.size w4 wr → Fls _ _ wr A0 xs.length c0 xs) := fun wr h => X0.out.below h (Nat.le_refl _)
  have HA0 := Lib.hid (Fc.acc_new w4)
  have HSA : Hid (sameV xs (addV (1 + n1) xs) = true) := sameV_yes HOK.out (addV_ok (by omega) HOK.out) (addV_view _ _)
  clear X0 X1 X2 HYV HV HYL
  go_wp2
  clear e0
  go_loopw [8, 9, 10] (fun v i _ wr => ∃ k : Nat, k ≤ xs.length ∧ i = .int .i64 (k : Int) ∧ Hid (Fc.Acc w4 wr v (addV (1 + n1) (xs.take k)))) (fun _ i _ _ => xs.length - (intOf i).toNat)
  case atStart => exact ⟨0, Nat.zero_le _, rfl, HA0.out⟩
  case round =>
    obtain ⟨k, hk, rfl, hR⟩ := hrel
    clear HA0
    by_cases hlt : k < xs.length
    · obtain ⟨b0, o0, rfl, _, _, _, r0, r1, r2⟩ := (HX.out _ hR.out.below).at_ hlt
      have HST := Lib.hid (addV_take (q := 1 + (n1 : Int)) hlt)
      obtain ⟨hs0, hs1⟩ := SM.out.2 _ (Fc.flAt_mem hlt)
      have hvl : (addV (1 + (n1 : Int)) (xs.take k)).length ≤ 100000 := by rw [addV_len, List.length_take]; omega
      generalize flAt xs k = f at *
      obtain ⟨f0, f1, f2⟩ := f
      dsimp only at r0 r1 r2 HST hs0 hs1
      rw [← Int.add_assoc] at HST
      have HAL := Lib.hid (hR.out.alloc (.cells #[.int .i64 f0, .int .i64 f1, .int .i64 (f2 + 1 + n1)] 28))
      clear hR
      generalize addV (1 + (n1 : Int)) (xs.take k) = vs at *
      have ew1 : IntKind.i64.wrap (f2 + 1) = f2 + 1 := IntWalk.i64_in _ (by omega)
      have ew2 : IntKind.i64.wrap (f2 + 1 + n1) = f2 + 1 + n1 := IntWalk.i64_in _ (by omega)
      go_wp2_with (at_builtin; refine Fc.wpList_cApp w4 _ _ vs HAL.out (⟨f0, f1, f2 + 1 + n1⟩ : Fl) hvl _ _ rfl rfl rfl (by first | rfl | go_simp | simp [Act.eval, World.setCell]) ?_; intro v9 w9 hN9 hB9 hO9)
      have HN := Lib.hid hN9
      clear hN9 hB9 hO9 HAL r0 r1 r2 ew1 ew2 hvl
      go_wp2
      go_roundw
      case rel => exact ⟨k + 1, by omega, by go_num, by show Fc.Acc _ _ _ _; rw [HST.out]; exact HN.out⟩
      case measure => simp [intOf]; omega
    · obtain rfl : k = xs.length := by omega
      have HT : Hid (xs.take xs.length = xs) := List.take_length
      rw [HT.out] at hR
      obtain ⟨A9, c9, rfl, ho9, hb9⟩ := hR.out.own
      have X9 := Lib.hid ho9.row_
      have X0 := Lib.hid (HX.out _ hb9)
      replace B := Lib.hid (B.out.trans (hb9.mono B.out.size))
      clear hR ho9 hb9 hlt
      go_wp2_with fail
      ((with_reducible refine (sameI HSA.out X0.out X9.out).mono ?_); rintro e w99 ⟨rfl, hb⟩)
      replace B := Lib.hid (B.out.trans (hb.mono B.out.size))
      clear hb
      go_wp2
      go_ret
      exact ⟨rfl, B.out⟩

set_option maxRecDepth 20000 in
set_option maxHeartbeats 2000000 in
theorem fnViewPart (A : Option Addr) (n c : Nat) (A1 : Option Addr) (n1 c1 : Nat) (w : World) (h : CodeIs w A n c) :
    Calls Try.prog 8 #[.slice A n c, .slice A1 n1 c1] w (TruePost w) := by
  have HC := Lib.hid h
  clear h
  by_cases hn : 1048576 < n
  · go_enter Try.func8, Try.ntmps8
    go_wp2
    go_ret
    exact ⟨rfl, Below.refl _ _⟩
  by_cases hn1 : 1048576 < n1
  · go_enter Try.func8, Try.ntmps8
    go_wp2
    go_ret
    exact ⟨rfl, Below.refl _ _⟩
  have B : Hid (Below w.heap.size w w) := Below.refl _ _
  go_enter Try.func8, Try.ntmps8
  go_wp2_with fail
  ((with_reducible refine (DrawViewOf _ _ _ _ HC.out).mono ?_); rintro e w1 ⟨A0, c0, xs, rfl, hsm, hx, hb⟩)
  replace B := Lib.hid (B.out.trans (hb.mono B.out.size))
  have z1 := hb.size
  have X0 := Lib.hid hx
  have SM := Lib.hid hsm
  clear hx hsm HC
  clear hb
  obtain ⟨ys, HV⟩ : ∃ ys, Hid (viewF xs = ys) := ⟨_, rfl⟩
  go_wp2_with fail
  ((with_reducible refine (viewI HV.out X0.out).mono ?_); rintro e w2 ⟨AX1, cX1, rfl, ho, hb⟩)
  replace X0 := Lib.hid (X0.out.below hb (Nat.le_refl _))
  replace B := Lib.hid (B.out.trans (hb.mono B.out.size))
  have z2 := hb.size
  have X1 := Lib.hid ho.row_
  clear ho
  clear hb
  go_wp2_with fail
  ((with_reducible refine (viewS HV.out X0.out).mono ?_); rintro e w3 ⟨AX2, cX2, rfl, ho, hb⟩)
  replace X0 := Lib.hid (X0.out.below hb (Nat.le_refl _))
  replace X1 := Lib.hid (X1.out.below hb (Nat.le_refl _))
  replace B := Lib.hid (B.out.trans (hb.mono B.out.size))
  have z3 := hb.size
  have X2 := Lib.hid ho.row_
  clear ho
  clear hb
  go_wp2_with fail
  ((with_reducible refine (sameT X1.out X2.out).mono ?_); rintro e w4 ⟨rfl, hb⟩)
  replace X0 := Lib.hid (X0.out.below hb (Nat.le_refl _))
  replace X1 := Lib.hid (X1.out.below hb (Nat.le_refl _))
  replace X2 := Lib.hid (X2.out.below hb (Nat.le_refl _))
  replace B := Lib.hid (B.out.trans (hb.mono B.out.size))
  have z4 := hb.size
  clear hb
  by_cases hx0 : ys.length = 0
  · have e0 : ((ys.length : Int) == 0) = true := by rw [hx0]; rfl
    clear hx0
    go_wp2_with fail
    ((with_reducible refine (sameT X1.out X2.out).mono ?_); rintro e w5 ⟨rfl, hb⟩)
    replace X0 := Lib.hid (X0.out.below hb (Nat.le_refl _))
    replace X1 := Lib.hid (X1.out.below hb (Nat.le_refl _))
    replace X2 := Lib.hid (X2.out.below hb (Nat.le_refl _))
    replace B := Lib.hid (B.out.trans (hb.mono B.out.size))
    have z5 := hb.size
    clear hb
    go_wp2
    go_ret
    exact ⟨rfl, B.out⟩
  have e0 : ((ys.length : Int) == 0) = false := by rw [beq_eq_false_iff_ne]; omega
  have HOK : Hid (flsOk xs = true) := viewF_pos (by rw [HV.out]; exact hx0)
  have HYV : Hid (viewL xs = ys) := by show _ = _; rw [← HV.out, viewF_yes HOK.out]
  have HYL : Hid (ys.length = xs.length) := by show _ = _; rw [← HYV.out, view_len]
  have h16 : xs.length ≤ 16 := (flsOk_iff.1 HOK.out).2
  have hm1 := X1.out.max_
  have hm0 := X0.out.max_
  have hk1 := X1.out.cap_
  have hk0 := X0.out.cap_
  clear hx0
  obtain ⟨r, hr, hrn⟩ : ∃ r : Nat, ((n1 : Nat) : Int).tmod ((xs.length : Int) + 1) = (r : Int) ∧ r ≤ xs.length := ⟨n1 % (xs.length + 1), by rw [Int.tmod_eq_emod_of_nonneg (by omega)]; simp, by have := Nat.mod_lt n1 (show 0 < xs.length + 1 by omega); omega⟩
  have hz : (((xs.length : Int) + 1) == 0) = false := by rw [beq_eq_false_iff_ne]; omega
  have hzz : ¬ ((xs.length : Int) + 1) = 0 := by omega
  have HVT : Hid (viewF (xs.take r) = ys.take r) := by show _ = _; rw [viewF_yes (ok_take r HOK.out), view_take hrn, HYV.out]
  have hry : r ≤ ys.length := by have := HYL.out; omega
  have hr0 : r ≤ c0 := by omega
  have hr1 : r ≤ cX1 := by omega
  have HYT : Hid ((ys.take r).length = r) := by show _ = _; rw [List.length_take]; omega
  have T0 := Lib.hid (X0.out.take hrn)
  have T1 := Lib.hid (X1.out.take hry)
  go_upto_region 9 with (fail)
  have T0d : Hid (Fls _ _ w4.drew A0 r c0 (xs.take r)) := T0.out
  have T1d : Hid (Fls _ _ w4.drew AX1 r cX1 (ys.take r)) := T1.out
  have Bd : Hid (Below w.heap.size w w4.drew) := bd (d := 1) B.out
  clear T0 T1 X0 X1 X2 B HV HYV HOK e0 hr
  go_region_law (first
    | (go_simp; go_at_call 14; (with_reducible refine (sameT I9.out I7e.out).mono ?_); rintro e w10 ⟨rfl, hb10⟩; have B10 := Lib.hid (B9.out.trans (hb10.mono B9.out.size)); clear hb10)
    | (go_simp; go_at_call 12; (with_reducible refine (viewM HVT.out HYT.out T0d.out).mono ?_); intro e w9 hp9; refine fn_out hp9 ?_; intro A9 k9 he9 ho9 hb9; subst he9; clear hp9; have I9 := Lib.hid ho9.row_; have I7e := Lib.hid (T1d.out.below hb9 (Nat.le_refl _)); have B9 := Lib.hid (Bd.out.trans (hb9.mono Bd.out.size)); clear ho9 hb9)
    | fail)
  all_goals
    go_wp2
    go_ret
    exact ⟨rfl, B10.out⟩

end Law13
end Go.Proofs.Ytcbhjnjallnidaa
