/-
  Contracts of container/heap over the program's heap of waiting packets: moving down.
-/
import Derived.Test.YtmnhobapjncbfaaHpo
import Derived.LoopTactic
namespace Go.Proofs.Ytmnhobapjncbfaa
open Go.RowKit
namespace Im6
open Il Gm Mm Tm Lm Pm Pq Hlp5 Sl Mm6 Hp6

theorem swap_out {α : Type} [Inhabited α] {l l0 : List α} {i j m : Nat} (hi : i < l.length) (hj : j < l.length) (him : i < m) (hjm : j < m) (h : ∀ z, m ≤ z → at_ l z = at_ l0 z) : ∀ z, m ≤ z → at_ (swap l i j) z = at_ l0 z := fun z hz => by
  rw [at_swap hi hj, if_neg (by omega), if_neg (by omega)]; exact h z hz
/-- What the heap's memory is while an element moves down. -/
def DnRel (hb k n cap m : Nat) (ws : List Wt) (w wr : World) (i : Nat) (vs : List Wt) : Prop :=
  vs.Perm ws ∧ DownInv leW vs m i ∧ (∀ z, m ≤ z → at_ vs z = at_ ws z) ∧ Blk wr hb #[.slice (some ⟨k, 0, none⟩) n cap] 89 ∧ AccV 70 7 k wr (.slice (some ⟨k, 0, none⟩) n cap) n (vs.flatMap wcells) ∧ KeptH hb (some k) w wr
def DnPost (hb k n cap m : Nat) (ws : List Wt) (w : World) (e : Ending) (w' : World) : Prop :=
  ∃ (r : Bool) (vs : List Wt), e = .returned (.bool r) ∧ vs.Perm ws ∧ IsHeap leW vs m ∧ (∀ z, m ≤ z → at_ vs z = at_ ws z) ∧ Blk w' hb #[.slice (some ⟨k, 0, none⟩) n cap] 89 ∧ AccV 70 7 k w' (.slice (some ⟨k, 0, none⟩) n cap) n (vs.flatMap wcells) ∧ KeptH hb (some k) w w'
section
variable {hb k n cap m i : Nat} {ws vs : List Wt} {w wr w' : World}
theorem DnRel.perm (h : DnRel hb k n cap m ws w wr i vs) : vs.Perm ws := h.1
theorem DnRel.inv (h : DnRel hb k n cap m ws w wr i vs) : DownInv leW vs m i := h.2.1
theorem DnRel.beh (h : DnRel hb k n cap m ws w wr i vs) : ∀ z, m ≤ z → at_ vs z = at_ ws z := h.2.2.1
theorem DnRel.blk (h : DnRel hb k n cap m ws w wr i vs) : Blk wr hb #[.slice (some ⟨k, 0, none⟩) n cap] 89 := h.2.2.2.1
theorem DnRel.acc (h : DnRel hb k n cap m ws w wr i vs) : AccV 70 7 k wr (.slice (some ⟨k, 0, none⟩) n cap) n (vs.flatMap wcells) := h.2.2.2.2.1
theorem DnRel.kept (h : DnRel hb k n cap m ws w wr i vs) : KeptH hb (some k) w wr := h.2.2.2.2.2
theorem DnRel.below (h : DnRel hb k n cap m ws w wr i vs) (hb1 : Below wr.heap.size wr w') : DnRel hb k n cap m ws w w' i vs :=
  ⟨h.1, h.2.1, h.2.2.1, h.blk.below hb1 (Nat.le_refl _), h.acc.block (hb1.block _ h.acc.lt), h.kept.trans (KeptH.below hb1) (.inl rfl)⟩
theorem DnRel.len (h : DnRel hb k n cap m ws w wr i vs) (hn : ws.length = n) : vs.length = n := h.1.length_eq.trans hn
/-- .. when it has gone down to j. -/
theorem DnRel.step {j : Nat} (h : DnRel hb k n cap m ws w wr i vs) (hn : ws.length = n) (hm : m ≤ n) (hj : j < m) (h0 : 0 < j) (hp : par j = i) (hmin : ∀ z, 0 < z → z < m → par z = i → leW (at_ vs j) (at_ vs z)) (hl : ltb (at_ vs j) (at_ vs i) = true) (hne : hb ≠ k)
    (ha : AccV 70 7 k w' (.slice (some ⟨k, 0, none⟩) n cap) n ((swap vs i j).flatMap wcells)) (hs : SameB k wr w') : DnRel hb k n cap m ws w w' j (swap vs i j) := by
  have hv := h.len hn
  have hij : i < j := by rw [← hp]; unfold par; omega
  refine ⟨(swap_perm (by omega) (by omega)).trans h.perm, ?_, swap_out (by omega) (by omega) (by omega) hj h.beh, (hs.block hb hne).trans h.blk, ha, h.kept.trans (KeptH.same hs) (.inl rfl)⟩
  exact down_step leW_tot h.inv (by omega) hj h0 hp hmin (fun hle => hle ((ltb_iff _ _).1 hl))
end
set_option maxRecDepth 20000 in
set_option maxHeartbeats 2000000 in
theorem heapDown (hb k n cap m : Nat) (ws : List Wt) (w : World) (hz : Blk w hb #[.slice (some ⟨k, 0, none⟩) n cap] 89) (h : AccV 70 7 k w (.slice (some ⟨k, 0, none⟩) n cap) n (ws.flatMap wcells)) (hn : ws.length = n) (hx : n ≤ 100000) (hm : m ≤ n) (hne : hb ≠ k) (hI : DownInv leW ws m 0) :
    Calls Try.prog 73 #[.iface 66 (.pointer (some ⟨hb, 0, none⟩)), .int .i64 0, .int .i64 m] w
      (DnPost hb k n cap m ws w) := by
  have HR0 : Hid (DnRel hb k n cap m ws w w 0 ws) := ⟨List.Perm.refl _, hI, fun _ _ => rfl, hz, h, KeptH.refl _ _ _⟩
  clear hI hz h
  have HN := Lib.hid hn
  clear hn
  go_enter Try.func73, Try.ntmps73
  go_wp2
  go_loopw [7] (fun i wr => ∃ (j : Nat) (vs : List Wt), j ≤ m ∧ i = .int .i64 j ∧ Hid (DnRel hb k n cap m ws w wr j vs)) (fun i _ => m - (intOf i).toNat)
  case atStart => exact ⟨0, ws, Nat.zero_le _, rfl, HR0.out⟩
  case round =>
    clear HR0
    obtain ⟨i, vs, hi, rfl, hR⟩ := hrel
    by_cases h1 : m ≤ 2 * i + 1
    · go_wp2
      go_ret
      exact ⟨_, vs, rfl, hR.out.perm, down_none hR.out.inv h1, hR.out.beh, hR.out.blk, hR.out.acc, hR.out.kept⟩
    · have h1a : 2 * i + 1 < m := by omega
      clear h1
      have HVL := Lib.hid (hR.out.len HN.out)
      have GI := Lib.hid (get_at (l := vs) (i := i) (by rw [HVL.out]; omega))
      have G1 := Lib.hid (get_at (l := vs) (i := 2 * i + 1) (by rw [HVL.out]; omega))
      by_cases h2 : 2 * i + 2 < m
      · have G2 := Lib.hid (get_at (l := vs) (i := 2 * i + 2) (by rw [HVL.out]; omega))
        obtain ⟨j1, hj1⟩ : ∃ j1 : Nat, j1 = 2 * i + 1 := ⟨_, rfl⟩
        have q1 : 2 * (i : Int) + 1 = (j1 : Int) := by omega
        obtain ⟨j2, hj2⟩ : ∃ j2 : Nat, j2 = j1 + 1 := ⟨_, rfl⟩
        have q2 : (j1 : Int) + 1 = (j2 : Int) := by omega
        rw [← hj1] at G1
        rw [show 2 * i + 2 = j2 by omega] at G2
        have q3 : j2 < m := by omega
        obtain ⟨hc, _⟩ := one_cell hR.out.blk
        have hml := meth_less hb _ _ hc
        have HJ1 := Lib.hid hj1
        have HJ2 := Lib.hid hj2
        clear hj1 hj2 h2 h1a
        go_wp2_with fail
        ((with_reducible refine (heapLess k n cap j2 j1 vs (at_ vs j2) (at_ vs j1) _ hR.out.acc HVL.out hx G2.out G1.out).mono ?_); rintro e w2 ⟨rfl, hb2⟩)
        have hR2 := Lib.hid (hR.out.below hb2)
        clear hR hb2 hc hml
        cases hl2 : ltb (at_ vs j2) (at_ vs j1)
        · have HMIN : Hid (∀ z, 0 < z → z < m → par z = i → leW (at_ vs j1) (at_ vs z)) := fun z z0 zm zp => by
            have e1 := HJ1.out
            have e2 := HJ2.out
            rcases kids z0 zp with rfl | rfl
            · rw [← e1]; exact leW_rf _
            · rw [show 2 * i + 2 = j2 by omega]; exact fun hlt => by rw [(ltb_iff _ _).2 hlt] at hl2; cases hl2
          have HPJ : Hid (par j1 = i) := by have e1 := HJ1.out; show par j1 = i; unfold par; omega
          have hj0 : 0 < j1 := by have e1 := HJ1.out; omega
          have hij : i < j1 := by have e1 := HJ1.out; omega
          have hjm : j1 < m := by have e2 := HJ2.out; omega
          have GJ := Lib.hid G1.out
          clear hl2
          obtain ⟨hc, _⟩ := one_cell hR2.out.blk
          have hml := meth_less hb _ _ hc
          go_wp2_with fail
          ((with_reducible refine (heapLess k n cap j1 i vs (at_ vs j1) (at_ vs i) _ hR2.out.acc HVL.out hx GJ.out GI.out).mono ?_); rintro e w3 ⟨rfl, hb3⟩)
          have hR3 := Lib.hid (hR2.out.below hb3)
          clear hR2 hb3 hc hml
          cases hl : ltb (at_ vs j1) (at_ vs i)
          · have HL := Lib.hid hl
            clear hl
            go_wp2
            go_ret
            exact ⟨_, vs, rfl, hR3.out.perm, down_end leW_tr hR3.out.inv HMIN.out (fun hlt => by rw [(ltb_iff _ _).2 hlt] at HL; exact absurd HL.out (by decide)), hR3.out.beh, hR3.out.blk, hR3.out.acc, hR3.out.kept⟩
          · have HL := Lib.hid hl
            clear hl
            obtain ⟨hc, _⟩ := one_cell hR3.out.blk
            have hml := meth_swap hb _ _ hc
            go_wp2_with fail
            ((with_reducible refine (heapSwap k n cap i j1 vs (at_ vs i) (at_ vs j1) _ hR3.out.acc HVL.out hx GI.out GJ.out).mono ?_); rintro e w4 ⟨rfl, ha4, hs4⟩)
            have hR4 := Lib.hid (hR3.out.step HN.out hm hjm hj0 HPJ.out HMIN.out HL.out hne ha4 hs4)
            clear hR3 ha4 hs4 hc hml HL HMIN HPJ GJ GI HVL
            go_wp2
            go_roundw
            case rel => exact ⟨j1, _, by omega, rfl, hR4.out⟩
            case measure => simp [intOf]; omega
        · have HMIN : Hid (∀ z, 0 < z → z < m → par z = i → leW (at_ vs j2) (at_ vs z)) := fun z z0 zm zp => by
            have e1 := HJ1.out
            have e2 := HJ2.out
            rcases kids z0 zp with rfl | rfl
            · rw [← e1]; exact leW_tot _ _ (fun h => h ((ltb_iff _ _).1 hl2))
            · rw [show 2 * i + 2 = j2 by omega]; exact leW_rf _
          have HPJ : Hid (par j2 = i) := by have e1 := HJ1.out; have e2 := HJ2.out; show par j2 = i; unfold par; omega
          have hj0 : 0 < j2 := by have e1 := HJ1.out; have e2 := HJ2.out; omega
          have hij : i < j2 := by have e1 := HJ1.out; have e2 := HJ2.out; omega
          have hjm : j2 < m := by omega
          have GJ := Lib.hid G2.out
          clear hl2
          obtain ⟨hc, _⟩ := one_cell hR2.out.blk
          have hml := meth_less hb _ _ hc
          go_wp2_with fail
          ((with_reducible refine (heapLess k n cap j2 i vs (at_ vs j2) (at_ vs i) _ hR2.out.acc HVL.out hx GJ.out GI.out).mono ?_); rintro e w3 ⟨rfl, hb3⟩)
          have hR3 := Lib.hid (hR2.out.below hb3)
          clear hR2 hb3 hc hml
          cases hl : ltb (at_ vs j2) (at_ vs i)
          · have HL := Lib.hid hl
            clear hl
            go_wp2
            go_ret
            exact ⟨_, vs, rfl, hR3.out.perm, down_end leW_tr hR3.out.inv HMIN.out (fun hlt => by rw [(ltb_iff _ _).2 hlt] at HL; exact absurd HL.out (by decide)), hR3.out.beh, hR3.out.blk, hR3.out.acc, hR3.out.kept⟩
          · have HL := Lib.hid hl
            clear hl
            obtain ⟨hc, _⟩ := one_cell hR3.out.blk
            have hml := meth_swap hb _ _ hc
            go_wp2_with fail
            ((with_reducible refine (heapSwap k n cap i j2 vs (at_ vs i) (at_ vs j2) _ hR3.out.acc HVL.out hx GI.out GJ.out).mono ?_); rintro e w4 ⟨rfl, ha4, hs4⟩)
            have hR4 := Lib.hid (hR3.out.step HN.out hm hjm hj0 HPJ.out HMIN.out HL.out hne ha4 hs4)
            clear hR3 ha4 hs4 hc hml HL HMIN HPJ GJ GI HVL
            go_wp2
            go_roundw
            case rel => exact ⟨j2, _, by omega, rfl, hR4.out⟩
            case measure => simp [intOf]; omega
      · obtain ⟨j1, hj1⟩ : ∃ j1 : Nat, j1 = 2 * i + 1 := ⟨_, rfl⟩
        have q1 : 2 * (i : Int) + 1 = (j1 : Int) := by omega
        rw [← hj1] at G1
        have HMIN : Hid (∀ z, 0 < z → z < m → par z = i → leW (at_ vs j1) (at_ vs z)) := fun z z0 zm zp => by
          rcases kids z0 zp with rfl | rfl
          · rw [← hj1]; exact leW_rf _
          · omega
        have HPJ : Hid (par j1 = i) := by show par j1 = i; unfold par; omega
        have hj0 : 0 < j1 := by omega
        have hij : i < j1 := by omega
        have hjm : j1 < m := by omega
        have q3 : m ≤ j1 + 1 := by omega
        have GJ := Lib.hid G1.out
        clear hj1 h2 h1a
        obtain ⟨hc, _⟩ := one_cell hR.out.blk
        have hml := meth_less hb _ _ hc
        go_wp2_with fail
        ((with_reducible refine (heapLess k n cap j1 i vs (at_ vs j1) (at_ vs i) _ hR.out.acc HVL.out hx GJ.out GI.out).mono ?_); rintro e w3 ⟨rfl, hb3⟩)
        have hR3 := Lib.hid (hR.out.below hb3)
        clear hR hb3 hc hml
        cases hl : ltb (at_ vs j1) (at_ vs i)
        · have HL := Lib.hid hl
          clear hl
          go_wp2
          go_ret
          exact ⟨_, vs, rfl, hR3.out.perm, down_end leW_tr hR3.out.inv HMIN.out (fun hlt => by rw [(ltb_iff _ _).2 hlt] at HL; exact absurd HL.out (by decide)), hR3.out.beh, hR3.out.blk, hR3.out.acc, hR3.out.kept⟩
        · have HL := Lib.hid hl
          clear hl
          obtain ⟨hc, _⟩ := one_cell hR3.out.blk
          have hml := meth_swap hb _ _ hc
          go_wp2_with fail
          ((with_reducible refine (heapSwap k n cap i j1 vs (at_ vs i) (at_ vs j1) _ hR3.out.acc HVL.out hx GI.out GJ.out).mono ?_); rintro e w4 ⟨rfl, ha4, hs4⟩)
          have hR4 := Lib.hid (hR3.out.step HN.out hm hjm hj0 HPJ.out HMIN.out HL.out hne ha4 hs4)
          clear hR3 ha4 hs4 hc hml HL HMIN HPJ GJ GI HVL
          go_wp2
          go_roundw
          case rel => exact ⟨j1, _, by omega, rfl, hR4.out⟩
          case measure => simp [intOf]; omega

end Im6
end Go.Proofs.Ytmnhobapjncbfaa
