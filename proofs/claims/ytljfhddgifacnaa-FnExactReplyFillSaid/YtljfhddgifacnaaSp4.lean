/-
  Contracts of the model's chapter 4: the body of a letter, the letter of a body.
-/
import Derived.Test.YtljfhddgifacnaaSp3
import Derived.Test.YtljfhddgifacnaaLm
import Derived.BigQuiet
namespace Go.Proofs.Ytljfhddgifacnaa
open Go.RowKit
namespace Sp4
open Il Gm Mm Tm Lm Sp2 Sp3

def lenOf : Value → Nat | .slice _ n _ => n | _ => 0

/-- A gathered slice and a bool are returned. -/
def AccPair (xs : List Int) (b : Bool) (w : World) (e : Ending) (w' : World) : Prop := ∃ v, e = .returned (.tuple #[v, .bool b]) ∧ Il.Acc w w' v xs
theorem AccPair.pair {xs : List Int} {b : Bool} {w : World} {e : Ending} {w' : World} (h : AccPair xs b w e w') : PairB xs b w e w' := by
  obtain ⟨v, rfl, ha⟩ := h
  obtain ⟨A, c, rfl, ho⟩ := own_of ha.1
  exact ⟨A, c, rfl, ho, Il.Acc.below ha⟩

/-- What has been gathered of a body: the length, the letter, k zeros. -/
def bodyTo (xs : List Int) (k : Nat) : List Int := ((xs.length : Int) :: xs) ++ List.replicate k 0
theorem bodyTo_len (xs : List Int) (k : Nat) : (bodyTo xs k).length = xs.length + 1 + k := by simp [bodyTo]; omega
theorem bodyTo_succ (xs : List Int) (k : Nat) : bodyTo xs k ++ [0] = bodyTo xs (k + 1) := by
  unfold bodyTo; rw [List.append_assoc, List.replicate_succ']
theorem bodyTo_head {xs : List Int} {k : Nat} (h : k = 4 - xs.length) : bodyTo xs k = headL xs := by subst h; rfl

set_option maxRecDepth 20000 in
theorem letterPack0 (lo hi : Nat) (A : Option Addr) (n c : Nat) (xs : List Int) (w : World) (hx : Ints lo hi w A n c xs) :
    Calls Try.prog 72 #[.slice A n c] w (AccPair (packF xs) (packOk xs) w) := by
  have HX := Lib.hid hx
  have HL := Lib.hid hx.1
  have HE := Lib.hid (acc_new w)
  cases hok : okL xs
  · have hp : packOk xs = false := by simp [packOk, hok]
    rw [packF_no hp, hp]
    clear hx hp
    go_enter Try.func72, Try.ntmps72
    go_wp2_with fail
    ((with_reducible refine (l2List _ _ _ _ _ _ w HX.out).mono ?_); rintro e w' ⟨rfl, rfl⟩)
    rw [hok]
    clear hok
    go_wp2
    go_ret2
    exact ⟨_, rfl, HE.out⟩
  · by_cases h4 : 4 < n
    · have hp : packOk xs = false := by
        cases h : packOk xs
        · rfl
        · have := (packOk_iff.1 h).2; rw [hx.1] at this; omega
      rw [packF_no hp, hp]
      clear hx hp
      go_enter Try.func72, Try.ntmps72
      go_wp2_with fail
      ((with_reducible refine (l2List _ _ _ _ _ _ w HX.out).mono ?_); rintro e w' ⟨rfl, rfl⟩)
      rw [hok]
      clear hok
      go_wp2
      go_ret2
      exact ⟨_, rfl, HE.out⟩
    · have hp : packOk xs = true := packOk_iff.2 ⟨hok, by rw [hx.1]; omega⟩
      have hn4 : n ≤ 4 := by omega
      have HP := Lib.hid hp
      rw [packF_yes hp, hp]
      have HA := Lib.hid (acc_one w (n : Int))
      have IX := Lib.hid (hx.below (B := w.heap.size) (w' := w.alloc (.cells #[.int .i64 (n : Int)] 3)) ((Below.refl _ _).alloc (Nat.le_refl _) _) (Nat.le_refl _))
      clear hx hp HE h4
      go_enter Try.func72, Try.ntmps72
      go_wp2_with fail
      ((with_reducible refine (l2List _ _ _ _ _ _ w HX.out).mono ?_); rintro e w' ⟨rfl, rfl⟩)
      rw [hok]
      clear hok
      go_wp2_with (at_builtin; refine wpList_appAny _ _ _ _ HA.out _ _ _ _ _ _ IX.out (by simp; omega) _ _ rfl rfl rfl rfl ?_; intro v1 w1 hAcc _; obtain ⟨A1, c1, rfl, _⟩ := own_of hAcc.1)
      have e1 : [(n : Int)] ++ xs = bodyTo xs 0 := by simp [bodyTo, HL.out]
      rw [e1] at hAcc
      obtain ⟨m0, hm0⟩ : ∃ m0, xs.length + 1 = m0 := ⟨_, rfl⟩
      have hm2 : (bodyTo xs 0).length = m0 := by rw [bodyTo_len, ← hm0]
      rw [hm2] at hAcc
      rw [hm0]
      have hm3 : n + 1 + 0 ≤ m0 ∧ m0 ≤ n + 1 + 0 := by rw [← hm0, HL.out]; omega
      have HT := Lib.hid hAcc
      clear hAcc e1 hm0 hm2 IX HA
      go_loopw [4] (fun v wr => ∃ (A1 : Option Addr) (c1 k m : Nat), k ≤ 4 - n ∧ v = .slice A1 m c1 ∧ (n + 1 + k ≤ m ∧ m ≤ n + 1 + k) ∧ Hid (Il.Acc w wr (.slice A1 m c1) (bodyTo xs k))) (fun v _ => 5 - lenOf v)
      case atStart => exact ⟨A1, c1, 0, m0, Nat.zero_le _, rfl, hm3, HT.out⟩
      case round =>
        obtain ⟨A2, c2, k, m, hk, rfl, hm, hT⟩ := hrel
        clear HT
        by_cases hlt : k < 4 - n
        · go_wp2_with (at_builtin; refine wpList_app1 _ _ _ _ _ hT.out (by rw [bodyTo_len, HL.out]; omega) _ _ rfl rfl rfl rfl ?_; intro v2 w2 hN _; rw [bodyTo_succ] at hN; obtain ⟨A3, c3, rfl, _⟩ := own_of hN.1)
          have e2 : n + 1 + (k + 1) ≤ (bodyTo xs (k + 1)).length ∧ (bodyTo xs (k + 1)).length ≤ n + 1 + (k + 1) := by rw [bodyTo_len, HL.out]; omega
          generalize (bodyTo xs (k + 1)).length = m2 at hN e2 ⊢
          have HN := Lib.hid hN
          clear hN hT
          go_roundw
          case rel => exact ⟨A3, c3, k + 1, m2, by omega, rfl, e2, HN.out⟩
          case measure => simp [lenOf]; omega
        · have hb := bodyTo_head (xs := xs) (k := k) (by rw [HL.out]; omega)
          have hT1 := hT.out
          rw [hb] at hT1
          have hlen := headL_len (packOk_iff.1 HP.out).2
          have e2 : m = (headL xs).length := by rw [hlen]; have := bodyTo_len xs k; rw [hb, hlen, HL.out] at this; omega
          obtain ⟨A3, c3, e3, ho⟩ := own_of hT1.1
          simp only [Value.slice.injEq] at e3
          obtain ⟨rfl, _, rfl⟩ := e3
          have hge : 5 ≤ (headL xs).length := by omega
          have hle : (headL xs).length ≤ 5 := by omega
          rw [e2] at hT1 ⊢
          have HT1 := Lib.hid hT1
          have HO := Lib.hid ho
          clear hT hT1 ho hb hlen e2
          go_wp2_with fail
          ((with_reducible refine (l3Tag _ _ _ _ _ (headL xs) 1 _ HO.out.ints (headL_ok HP.out) (by omega) (by omega)).mono ?_); rintro e w' ⟨rfl, rfl⟩)
          go_wp2_with (at_builtin; refine wpList_app1 _ _ _ _ _ HT1.out (by omega) _ _ rfl rfl rfl rfl ?_; intro v3 w3 hN _)
          have HN := Lib.hid hN
          clear hN HT1 HO
          go_wp2
          go_ret2
          exact ⟨_, rfl, HN.out⟩

set_option maxRecDepth 20000 in
theorem LetterPack (lo hi : Nat) (A : Option Addr) (n c : Nat) (xs : List Int) (w : World) (hx : Ints lo hi w A n c xs) :
    Calls Try.prog 72 #[.slice A n c] w (PairB (packF xs) (packOk xs) w) :=
  (letterPack0 lo hi A n c xs w hx).mono fun _ _ h => h.pair

set_option maxRecDepth 20000 in
theorem letterOpen0 (lo hi : Nat) (A : Option Addr) (n c : Nat) (xs : List Int) (w : World) (hx : Ints lo hi w A n c xs) :
    Calls Try.prog 83 #[.slice A n c] w (PairB (openF xs) (openOk xs) w) := by
  have HX := Lib.hid hx
  have HL := Lib.hid hx.1
  have hcap := hx.2.1
  have hno : ∀ (d : Nat), openOk xs = false → PairB (openF xs) (openOk xs) w (.returned (.tuple #[.slice (some ⟨w.heap.size, 0, none⟩) 0 0, .bool false])) ((w.drewN d).alloc (.cells #[] 3)) := fun d h => by
    rw [openF_no h, h]
    have ha := acc_new (w.drewN d)
    have hp := (AccPair.pair (xs := []) (b := false) ⟨_, rfl, ha⟩ : PairB [] false (w.drewN d) _ _)
    obtain ⟨A1, c1, e, ho, hb⟩ := hp
    exact ⟨A1, c1, e, ho, below_drewN hb⟩
  have HNO := Lib.hid hno
  clear hno
  cases hok : okL xs
  · have HF := Lib.hid (openOk_bad (b := xs) (by rw [hok]; simp))
    have H5 := HX
    have K5 : Hid (okL xs = true → okL xs = true) := fun h => h
    clear hx
    go_enter Try.func83, Try.ntmps83
    go_wp2_with fail
    go_quiet ((go_at_call 81; exact quiet_eq (l2List _ _ _ _ _ _ _ (HX.out.drewN _))))
    go_wp2
    go_ret2
    exact HNO.out _ HF.out
  by_cases h6 : n = 6
  · subst h6
    obtain ⟨b, off, rfl, _, _, cell5⟩ := hx.at_ (k := 5) (by omega)
    obtain ⟨b', off', e', _, _, cell0⟩ := hx.at_ (k := 0) (by omega)
    simp only [Option.some.injEq, Addr.mk.injEq, and_true] at e'
    obtain ⟨rfl, rfl⟩ := e'
    rw [Nat.add_zero] at cell0
    have hb0 := okL_at hok (k := 0) (by rw [hx.1]; omega)
    have H5 := Lib.hid (hx.take (k := 5) (by omega))
    have K5 := Lib.hid (okL_take hok 5)
    have hne6 : ((6 : Int) != 6) = false := rfl
    have hc5 : 5 ≤ c := by omega
    by_cases ht : tagL 1 (xs.take 5) = xs.getD 5 0
    · by_cases h4 : xs.getD 0 0 ≤ 4
      · obtain ⟨z, hz⟩ := Int.eq_ofNat_of_zero_le hb0.1
        have HZ := Lib.hid hz
        rw [hz] at cell0 h4
        have hz4 : z ≤ 4 := by omega
        have e1 : (tagL 1 (xs.take 5) != xs.getD 5 0) = false := by simpa using ht
        have HTG := Lib.hid ht
        have HOK := Lib.hid hok
        generalize xs.getD 5 0 = x5 at cell5 e1
        have hc1 : ¬ c = 1 := by omega
        have hbw : b < w.heap.size := World.block_lt_of_cell? w _ cell0
        clear hx ht h4 hb0 hz
        go_enter Try.func83, Try.ntmps83
        go_wp2_with fail
        go_quiet ((first | (go_at_call 81; exact quiet_eq (l2List _ _ _ _ _ _ _ (HX.out.drewN _))) | (go_at_call 104; exact quiet_eq (l3Tag _ _ _ _ _ _ 1 _ (H5.out.drewN _) K5.out (by omega) (by omega)))))
        have hHA := acc_new (w.drewN nq)
        have hIX := (HX.out.sub_ (k := 1) (m := z) (by omega)).drewN nq
        have HA := Lib.hid hHA
        have IX := Lib.hid (hIX.below (B := (w.drewN nq).heap.size) (w' := (w.drewN nq).alloc (.cells #[] 3)) ((Below.refl _ _).alloc (Nat.le_refl _) _) (Nat.le_refl _))
        have hca : ((w.drewN nq).alloc (.cells #[] 3)).cell? ⟨b, off, none⟩ = some (.int .i64 (z : Int)) := (World.cell?_of_block (w := w.drewN nq) (Below.heap_alloc (w.drewN nq) (.cells #[] 3) b hbw)).trans cell0
        clear hHA hIX e1
        go_wp2
        go_loop [5] (fun i => ∃ k : Nat, z + 1 ≤ k ∧ k ≤ 5 ∧ i = .int .i64 k ∧ Hid (∀ j, z + 1 ≤ j → j < k → xs.getD j 0 = 0)) (fun i => 5 - (intOf i).toNat)
        case atStart => exact ⟨z + 1, Nat.le_refl _, by omega, by go_num, fun j h1 h2 => absurd h2 (by omega)⟩
        case round =>
          obtain ⟨k, hk0, hk, rfl, hT⟩ := hrel
          by_cases hlt : k < 5
          · obtain ⟨b2, off2, e2, _, _, hck⟩ := HX.out.at_ (k := k) (by omega)
            simp only [Option.some.injEq, Addr.mk.injEq, and_true] at e2
            obtain ⟨rfl, rfl⟩ := e2
            generalize hxe : xs.getD k 0 = x at hck
            have HXE := Lib.hid hxe
            clear hxe
            by_cases hx0 : x = 0
            · have HN : Hid (∀ j, z + 1 ≤ j → j < k + 1 → xs.getD j 0 = 0) := by
                intro j h1 h2
                by_cases e : j = k
                · subst e; exact HXE.out.trans hx0
                · exact hT.out j h1 (by omega)
              subst hx0
              clear hT
              go_wp2
              go_round
              case rel => exact ⟨k + 1, by omega, by omega, by go_num, HN.out⟩
              case measure => simp [intOf]; omega
            · have hb1 : (x != 0) = true := by simpa using hx0
              have HF := Lib.hid (openOk_bad (b := xs) (by
                intro h
                have h5 := h.2.2.2.2
                rw [HZ.out, Int.toNat_natCast] at h5
                exact hx0 (HXE.out.symm.trans (h5 k hk0 hlt))))
              clear hx0 hT
              go_wp2
              go_ret2
              exact HNO.out _ HF.out
          · have hk5 : k = 5 := by omega
            have hyes : openOk xs = true := openOk_iff.2 ⟨HOK.out, HL.out, HTG.out, by rw [HZ.out]; omega, fun i h1 h2 => hT.out i (by rw [HZ.out, Int.toNat_natCast] at h1; exact h1) (by omega)⟩
            have hfin : openF xs = (xs.drop 1).take z := by rw [openF_yes hyes, HZ.out, Int.toNat_natCast]
            have HY := Lib.hid hyes
            have HF := Lib.hid hfin
            clear hT hk5 hyes hfin
            go_wp2_with (at_builtin; refine wpList_appAny _ _ _ _ HA.out _ _ _ _ _ _ IX.out (by simp; omega) _ _ rfl rfl rfl rfl ?_; intro v3 w3 hN _)
            rw [List.nil_append] at hN
            have HP : Hid (PairB (openF xs) (openOk xs) w (.returned (.tuple #[v3, .bool true])) w3) := by
              rw [HF.out, HY.out]
              obtain ⟨A1, c1, e, ho, hb⟩ := (AccPair.pair (b := true) ⟨v3, rfl, hN⟩ : PairB ((xs.drop 1).take z) true (w.drewN nq) _ w3)
              exact ⟨A1, c1, e, ho, below_drewN hb⟩
            clear hN
            go_wp2
            go_ret2
            exact HP.out
      · have HF := Lib.hid (openOk_bad (b := xs) (by intro h; exact h4 h.2.2.2.1))
        generalize xs.getD 0 0 = x0 at cell0 hb0 h4
        have e1 : (tagL 1 (xs.take 5) != xs.getD 5 0) = false := by simpa using ht
        generalize xs.getD 5 0 = x5 at cell5 e1
        have h4' : 4 < x0 := by omega
        clear hx ht h4
        go_enter Try.func83, Try.ntmps83
        go_wp2_with fail
        go_quiet ((first | (go_at_call 81; exact quiet_eq (l2List _ _ _ _ _ _ _ (HX.out.drewN _))) | (go_at_call 104; exact quiet_eq (l3Tag _ _ _ _ _ _ 1 _ (H5.out.drewN _) K5.out (by omega) (by omega)))))
        go_wp2
        go_ret2
        exact HNO.out _ HF.out
    · have HF := Lib.hid (openOk_bad (b := xs) (by intro h; exact ht h.2.2.1))
      have e1 : (tagL 1 (xs.take 5) != xs.getD 5 0) = true := by simpa using ht
      generalize xs.getD 5 0 = x5 at cell5 e1
      clear hx ht
      go_enter Try.func83, Try.ntmps83
      go_wp2_with fail
      go_quiet ((first | (go_at_call 81; exact quiet_eq (l2List _ _ _ _ _ _ _ (HX.out.drewN _))) | (go_at_call 104; exact quiet_eq (l3Tag _ _ _ _ _ _ 1 _ (H5.out.drewN _) K5.out (by omega) (by omega)))))
      go_wp2
      go_ret2
      exact HNO.out _ HF.out
  · have HF := Lib.hid (openOk_bad (b := xs) (by intro h; exact h6 (hx.1.symm.trans h.2.1)))
    have e6 : ((n : Int) != 6) = true := by simp; omega
    clear hx h6
    go_enter Try.func83, Try.ntmps83
    go_wp2_with fail
    go_quiet ((go_at_call 81; exact quiet_eq (l2List _ _ _ _ _ _ _ (HX.out.drewN _))))
    go_wp2
    go_ret2
    exact HNO.out _ HF.out

set_option maxRecDepth 20000 in
theorem LetterOpen (lo hi : Nat) (A : Option Addr) (n c : Nat) (xs : List Int) (w : World) (hx : Ints lo hi w A n c xs) :
    Calls Try.prog 83 #[.slice A n c] w (PairB (openF xs) (openOk xs) w) := letterOpen0 lo hi A n c xs w hx

end Sp4
end Go.Proofs.Ytljfhddgifacnaa
