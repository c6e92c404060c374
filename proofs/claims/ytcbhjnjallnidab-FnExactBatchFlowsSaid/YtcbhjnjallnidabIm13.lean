/-
  Contracts of the program's chapter 32: valid flows, numbers in the order of their appearance.
-/
import Derived.Test.YtcbhjnjallnidabSp13
import Derived.Test.YtcbhjnjallnidabNu13
namespace Go.Proofs.Ytcbhjnjallnidab
open Go.RowKit
namespace Im13
open Il Sl Fc Fp Pm Sp13 Nu13

theorem nameValid (x : Int) (w : World) : Calls Try.prog 43 #[.int .i64 x] w fun e w' => e = .returned (.bool (inName x)) ∧ w = w' := by
  by_cases h0 : 0 ≤ x
  · by_cases h1 : x < 8
    · have hv : inName x = true := inName_iff.2 (by omega)
      rw [hv]
      clear hv
      go_enter Try.func43, Try.ntmps43
      go_wp2
      go_ret
      exact ⟨rfl, rfl⟩
    · have hv : inName x = false := by unfold inName; simp; omega
      rw [hv]
      clear hv
      have h2 : decide (x < 8) = false := by simpa using h1
      clear h1
      go_enter Try.func43, Try.ntmps43
      go_wp2
      go_ret
      exact ⟨rfl, rfl⟩
  · have hv : inName x = false := by unfold inName; simp; omega
    rw [hv]
    clear hv
    have h2 : decide (0 ≤ x) = false := by simpa using h0
    clear h0
    go_enter Try.func43, Try.ntmps43
    go_wp2
    go_ret
    exact ⟨rfl, rfl⟩
theorem endValid (x : Int) (w : World) : Calls Try.prog 41 #[.int .i64 x] w fun e w' => e = .returned (.bool (endOk x)) ∧ w = w' := by
  by_cases h0 : x = -1
  · subst h0
    have hv : endOk (-1) = true := rfl
    rw [hv]
    go_enter Try.func41, Try.ntmps41
    go_wp2
    go_ret
    exact ⟨rfl, rfl⟩
  · have hv : endOk x = inName x := by unfold endOk inName; exact decide_eq_decide.2 (by omega)
    rw [hv]
    have h1 : (x == -1) = false := by simpa using h0
    clear h0 hv
    go_enter Try.func41, Try.ntmps41
    go_wp2_with fail
    ((with_reducible refine (nameValid x _).mono ?_); rintro e w1 ⟨rfl, rfl⟩)
    go_wp2
    go_ret
    exact ⟨rfl, rfl⟩
set_option maxRecDepth 20000 in
set_option maxHeartbeats 1000000 in
theorem flowsValid (lo hi : Nat) (A : Option Addr) (n c : Nat) (xs : List Fl) (w : World) (hx : Fls lo hi w A n c xs) :
    Calls Try.prog 32 #[.slice A n c] w (BoolB (flsOk xs) w) := by
  have hc1 := hx.max_
  have hc2 := hx.cap_
  have HL := Lib.hid hx.len_
  have HX : Hid (∀ wr, Below w.heap.size w wr → Fls lo hi wr A n c xs) := fun wr h => hx.below h (Nat.le_refl _)
  clear hx
  by_cases h16 : n ≤ 16
  case neg =>
    have HF : Hid (flsOk xs = false) := flsOk_long (by rw [HL.out]; exact h16)
    have d16 : decide (16 < (n : Int)) = true := by simp; omega
    clear h16
    go_enter Try.func32, Try.ntmps32
    go_wp2
    go_ret
    rw [HF.out]
    exact ⟨rfl, Below.refl _ _⟩
  have d16 : decide (16 < (n : Int)) = false := by simp; omega
  have H16 := Lib.hid h16
  have HB0 := Lib.hid (Below.refl w.heap.size w)
  clear h16
  go_enter Try.func32, Try.ntmps32
  go_wp2
  clear d16
  go_loopw [4, 10] (fun _ i wr => ∃ k : Nat, k ≤ n ∧ i = .int .i64 k ∧ Hid (okTo xs k) ∧ Hid (Below w.heap.size w wr)) (fun _ i _ => n - (intOf i).toNat)
  case atStart => exact ⟨0, Nat.zero_le _, rfl, okTo_zero _, HB0.out⟩
  case round =>
    obtain ⟨k, hk, rfl, hT, hB⟩ := hrel
    clear HB0
    by_cases hlt : k < n
    · have hkl : k < xs.length := by rw [HL.out]; exact hlt
      have IX := HX.out _ hB.out
      obtain ⟨b, off, rfl, _, _, hbz, c0, c1, c2⟩ := IX.at_ hlt
      clear IX
      have HBAD : Hid (flOk (flAt xs k) = false → flsOk xs = false) := flsOk_bad hkl
      have HGOOD : Hid (flOk (flAt xs k) = true → okTo xs (k + 1)) := okTo_succ hT.out
      clear hT hkl
      generalize flAt xs k = f at *
      obtain ⟨f0, f1, f2⟩ := f
      dsimp only at c0 c1 c2
      have HB2 : Hid (Below w.heap.size w (wr.alloc (.cells #[.int .i64 f0, .int .i64 f1, .int .i64 f2] 30))) := hB.out.alloc hB.out.size _
      clear hB
      cases h0 : endOk f0
      · have HF := Lib.hid (HBAD.out (flOk_fr h0))
        go_wp2_with fail
        ((with_reducible refine (endValid f0 _).mono ?_); rintro e w1 ⟨rfl, rfl⟩)
        rw [h0]
        clear h0
        go_wp2
        go_ret
        rw [HF.out]
        exact ⟨rfl, HB2.out⟩
      go_wp2_with fail
      ((with_reducible refine (endValid f0 _).mono ?_); rintro e w1 ⟨rfl, rfl⟩)
      rw [h0]
      cases h1 : endOk f1
      · have HF := Lib.hid (HBAD.out (flOk_to h1))
        go_wp2_with fail
        ((with_reducible refine (endValid f1 _).mono ?_); rintro e w1 ⟨rfl, rfl⟩)
        rw [h1]
        clear h0 h1
        go_wp2
        go_ret
        rw [HF.out]
        exact ⟨rfl, HB2.out⟩
      go_wp2_with fail
      ((with_reducible refine (endValid f1 _).mono ?_); rintro e w1 ⟨rfl, rfl⟩)
      rw [h1]
      cases h2 : decide (0 ≤ f2)
      · have HF := Lib.hid (HBAD.out (flOk_nm h2))
        have h3 : decide (f2 < 0) = true := by
          rw [decide_eq_false_iff_not] at h2
          exact decide_eq_true (by omega)
        clear h0 h1 h2
        go_wp2
        go_ret
        rw [HF.out]
        exact ⟨rfl, HB2.out⟩
      have HG := Lib.hid (HGOOD.out (flOk_yes h0 h1 h2))
      have h3 : decide (f2 < 0) = false := by
        rw [decide_eq_true_eq] at h2
        exact decide_eq_false (by omega)
      clear h0 h1 h2
      go_wp2
      go_roundw
      case rel => exact ⟨k + 1, by omega, by go_num, HG.out, HB2.out⟩
      case measure => simp [intOf]; omega
    · obtain rfl : k = n := by omega
      have HF : Hid (flsOk xs = true) := flsOk_all (by rw [HL.out]; exact hT.out) (by rw [HL.out]; exact H16.out)
      clear hlt hT
      go_wp2
      go_ret
      rw [HF.out]
      exact ⟨rfl, hB.out⟩
/-- A row of n numbers of the call's own, the first k of xs in it. -/
def OwnK (w wr : World) (xs : List Int) (n k : Nat) : Prop :=
  Il.Own w.heap.size (w.heap.size + 1) wr (some ⟨w.heap.size, 0, none⟩) n n (xs.take k ++ List.replicate (n - k) 0) ∧ Below w.heap.size w wr ∧ w.heap.size < wr.heap.size
theorem own_set {xs : List Int} {n k : Nat} (hl : xs.length = n) (hk : k < n) : (xs.take k ++ List.replicate (n - k) 0).set k (xs.getD k 0) = xs.take (k + 1) ++ List.replicate (n - (k + 1)) 0 := by
  have h1 : (xs.take k).length = k := by rw [List.length_take]; omega
  rw [List.set_append_right _ _ (by omega), h1, Nat.sub_self]
  have h2 : n - k = (n - (k + 1)) + 1 := by omega
  rw [h2, List.replicate_succ, List.set_cons_zero, take_snoc (by omega), List.append_assoc]
  rfl
theorem ownK_new (w : World) (xs : List Int) (n : Nat) (hn : n ≤ maxLen) : OwnK w (w.alloc (.cells (madeCells #[.int .i64 0] n) 3)) xs n 0 :=
  ⟨by simpa using own_made w 3 n hn, (Below.refl _ _).alloc (Nat.le_refl _) _, by simp⟩
section
variable {w wr w2 : World} {xs : List Int} {n k : Nat}
theorem OwnK.cell (h : OwnK w wr xs n k) (hk : k < n) : (∃ v, wr.cell? ⟨w.heap.size, k, none⟩ = some v) ∧ wr.frozen? ⟨w.heap.size, k, none⟩ = false := by
  obtain ⟨b, o, e, _, _, hc⟩ := h.1.1.at_ hk
  simp only [Option.some.injEq, Addr.mk.injEq, and_true] at e
  obtain ⟨rfl, rfl⟩ := e
  have hf := h.1.2 w.heap.size 0 (by omega) rfl k hk
  rw [Nat.zero_add] at hc hf
  exact ⟨⟨_, hc⟩, hf⟩
theorem OwnK.set (h : OwnK w wr xs n k) (hl : xs.length = n) (hk : k < n) {x : Int} (hx : xs.getD k 0 = x) : OwnK w (wr.setCell ⟨w.heap.size, k, none⟩ (.int .i64 x)) xs n (k + 1) := by
  have hs := h.1.set_ hk x
  rw [← hx, own_set hl hk, Nat.zero_add, hx] at hs
  exact ⟨hs, h.2.1.setCell (p := ⟨w.heap.size, k, none⟩) (Nat.le_refl _) _, by simpa [World.setCell] using h.2.2⟩
theorem OwnK.alloc (h : OwnK w wr xs n k) (o : Obj) : OwnK w (wr.alloc o) xs n k := by
  refine ⟨h.1.below ((Below.refl wr.heap.size wr).alloc (Nat.le_refl _) o) (Nat.le_refl _), h.2.1.alloc h.2.1.size o, ?_⟩
  have := h.2.2
  simp; omega
theorem OwnK.post (h : OwnK w wr xs n n) (hl : xs.length = n) : NewInts w xs (.returned (.slice (some ⟨w.heap.size, 0, none⟩) n n)) wr := by
  obtain ⟨h1, h2, h3⟩ := h
  rw [List.take_of_length_le (by omega), Nat.sub_self, List.replicate_zero, List.append_nil] at h1
  subst hl
  exact ⟨_, _, rfl, h1.mono (Nat.le_refl _) h3, h2⟩
end
set_option maxRecDepth 20000 in
set_option maxHeartbeats 1000000 in
theorem outwardNames (lo hi : Nat) (A : Option Addr) (n c : Nat) (xs : List Fl) (w : World) (hx : Fls lo hi w A n c xs) (hn : n ≤ 16) :
    Calls Try.prog 36 #[.slice A n c] w (NewInts w (nms xs)) := by
  have hc1 := hx.max_
  have hc2 := hx.cap_
  have HL := Lib.hid hx.len_
  have HX : Hid (∀ wr, Below w.heap.size w wr → Fls lo hi wr A n c xs) := fun wr h => hx.below h (Nat.le_refl _)
  have HNL : Hid ((nms xs).length = n) := by show _ = _; rw [nms_len, hx.len_]
  have hmk := run_make_row' (P := Try.prog) 23 3 (.int .i64 0) 8 Try.underlying23 infoInt rfl .i64 .i64 n (by omega) (by omega)
  have HR0 := Lib.hid (ownK_new w (nms xs) n (by unfold maxLen; omega))
  clear hx
  go_enter Try.func36, Try.ntmps36
  go_wp2
  clear hmk
  go_loopw [4, 5, 11] (fun _ _ i wr => ∃ k : Nat, k ≤ n ∧ i = .int .i64 k ∧ Hid (OwnK w wr (nms xs) n k)) (fun _ _ i _ => n - (intOf i).toNat)
  case atStart => exact ⟨0, Nat.zero_le _, rfl, HR0.out⟩
  case round =>
    obtain ⟨k, hk, rfl, hR⟩ := hrel
    clear HR0
    by_cases hlt : k < n
    · obtain ⟨b, off, rfl, _, _, hbz, c0, c1, c2⟩ := (HX.out _ hR.out.2.1).at_ hlt
      have HNM : Hid ((nms xs).getD k 0 = (flAt xs k).nm) := nms_at (by rw [HL.out]; exact hlt)
      generalize flAt xs k = f at *
      obtain ⟨f0, f1, f2⟩ := f
      dsimp only at c0 c1 c2 HNM
      have HR2 := Lib.hid ((hR.out.set HNL.out hlt HNM.out).alloc (.cells #[.int .i64 f0, .int .i64 f1, .int .i64 f2] 30))
      obtain ⟨⟨v, hv⟩, hf⟩ := (hR.out.alloc (.cells #[.int .i64 f0, .int .i64 f1, .int .i64 f2] 30)).cell hlt
      have hw0 : w.heap.size < wr.heap.size := hR.out.2.2
      clear hR
      go_wp2
      go_roundw
      case rel => exact ⟨k + 1, by omega, by go_num, HR2.out⟩
      case measure => simp [intOf]; omega
    · obtain rfl : k = n := by omega
      have HP := Lib.hid (hR.out.post HNL.out)
      clear hlt hR
      go_wp2
      go_ret
      exact HP.out
end Im13
end Go.Proofs.Ytcbhjnjallnidab
