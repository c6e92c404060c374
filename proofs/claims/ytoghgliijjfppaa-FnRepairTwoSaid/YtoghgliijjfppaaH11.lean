/-
  Helpers of the laws: lists of lists compared.
-/
import Derived.Test.YtoghgliijjfppaaCk
import Derived.Test.YtoghgliijjfppaaSp11b
import Derived.Test.YtoghgliijjfppaaHlp
import Derived.StillTailTactics
import Derived.Deep.RegionLaw
namespace Go.Proofs.Ytoghgliijjfppaa
open Go.RowKit
namespace H11
open Il Sl Fo Cm Cs Gm

theorem ints_dr {lo hi : Nat} {w : World} {A : Option Addr} {n c : Nat} {xs : List Int} (h : Ints lo hi w A n c xs) : Ints lo hi w.drew A n c xs := h
theorem eqs_take {xs ys : List (List Int)} {k : Nat} (h1 : k < xs.length) (h2 : k < ys.length) (h : xs.take k = ys.take k) (he : slAt xs k = slAt ys k) : xs.take (k + 1) = ys.take (k + 1) := by
  rw [← Ck.take_slot h1, ← Ck.take_slot h2, h, he]
def SpRel (l1 h1 l2 h2 : Nat) (w wr : World) (A B : Option Addr) (n c m d : Nat) (xs ys : List (List Int)) : Prop := Sts l1 h1 wr A n c xs ∧ Sts l2 h2 wr B m d ys ∧ ∃ q, wr = w.drewN q
set_option maxRecDepth 20000 in
set_option maxHeartbeats 1000000 in
theorem samePieces (l1 h1 l2 h2 : Nat) (A B : Option Addr) (n c m d : Nat) (xs ys : List (List Int)) (w : World) (hx : Sts l1 h1 w A n c xs) (hy : Sts l2 h2 w B m d ys) :
    Calls Try.prog 14 #[.slice A n c, .slice B m d] w (BoolPost (decide (xs = ys)) w) := by
  have HX := Lib.hid hx.len_
  have HY := Lib.hid hy.len_
  have hc1 := hx.max_
  have hc2 := hx.cap_
  unfold maxLen at hc1
  by_cases hnm : n = m
  case neg =>
    have HV : Hid (decide (xs = ys) = false) := decide_eq_false fun e => hnm (by rw [← HX.out, ← HY.out, e])
    have hne : ((n : Int) != (m : Int)) = true := by simpa using (by omega : ¬ (n : Int) = m)
    rw [HV.out]
    clear hx hy hnm
    go_enter Try.func14, Try.ntmps14
    go_wp2
    go_ret
    exact ⟨rfl, 0, rfl⟩
  subst hnm
  have HR0 : Hid (SpRel l1 h1 l2 h2 w w A B n c n d xs ys) := ⟨hx, hy, 0, rfl⟩
  clear hx hy
  go_enter Try.func14, Try.ntmps14
  go_wp2
  go_loopw [5] (fun i wr => ∃ k : Nat, k ≤ n ∧ i = .int .i64 k ∧ Hid (xs.take k = ys.take k) ∧ Hid (SpRel l1 h1 l2 h2 w wr A B n c n d xs ys)) (fun i _ => n - (intOf i).toNat)
  case atStart => exact ⟨0, Nat.zero_le _, rfl, rfl, HR0.out⟩
  case round =>
    obtain ⟨k, hk, rfl, hT, hR⟩ := hrel
    clear HR0
    by_cases hlt : k < n
    · obtain ⟨b, off, P1, e1, rfl, _, _, _, c1, i1⟩ := hR.out.1.at_ hlt
      obtain ⟨b2, off2, P2, e2, rfl, _, _, _, c2, i2⟩ := hR.out.2.1.at_ hlt
      have HN : Hid (slAt xs k = slAt ys k → xs.take (k + 1) = ys.take (k + 1)) := fun h => eqs_take (by rw [HX.out]; exact hlt) (by rw [HY.out]; exact hlt) hT.out h
      have HF : Hid (slAt xs k ≠ slAt ys k → decide (xs = ys) = false) := fun h => decide_eq_false fun e => h (by rw [e])
      have I1 := Lib.hid i1
      have I2 := Lib.hid i2
      clear hT i1 i2
      generalize slAt xs k = x at *
      generalize slAt ys k = y at *
      go_wp2
      go_still_tail 8, (by kernel_rfl)
      change wpList _ _ _ _ _ wr.drew
      go_wp2_with fail
      ((with_reducible refine (Hlp.sameInts _ _ _ _ _ _ _ _ _ _ x y _ (ints_dr I1.out) (ints_dr I2.out)).mono ?_); rintro e w1 ⟨rfl, q, rfl⟩)
      have HR2 : Hid (SpRel l1 h1 l2 h2 w (wr.drewN (1 + q)) (some ⟨b, off, none⟩) (some ⟨b2, off2, none⟩) n c n d xs ys) := by
        obtain ⟨r1, r2, q2, r3⟩ := hR.out
        exact ⟨r1, r2, q2 + (1 + q), by rw [r3, World.drewN_drewN]⟩
      clear hR c1 c2
      by_cases hxy : x = y
      · have HN2 := Lib.hid (HN.out hxy)
        rw [decide_eq_true hxy]
        clear HN HF hxy
        go_wp2
        go_roundw
        case rel => exact ⟨k + 1, by omega, by go_num, HN2.out, HR2.out⟩
        case measure => simp [intOf]; omega
      · have HF2 := Lib.hid (HF.out hxy)
        rw [decide_eq_false hxy]
        clear HN HF hxy
        go_wp2
        go_ret
        rw [HF2.out]
        exact ⟨rfl, HR2.out.2.2⟩
    · obtain rfl : k = n := by omega
      have HV : Hid (decide (xs = ys) = true) := by
        refine decide_eq_true ?_
        have h := hT.out
        rwa [List.take_of_length_le (by rw [HX.out]; exact Nat.le_refl _), List.take_of_length_le (by rw [HY.out]; exact Nat.le_refl _)] at h
      have HR2 := Lib.hid hR.out.2.2
      clear hT hR hlt
      go_wp2
      go_ret
      rw [HV.out]
      exact ⟨rfl, HR2.out⟩

theorem sameT (la ha lb hb : Nat) (A B : Option Addr) (n m c d : Nat) (xs : List Int) (w : World) (hx : Ints la ha w A n c xs) (hy : Ints lb hb w B m d xs) : Calls Try.prog 16 #[.slice A n c, .slice B m d] w (BoolPost true w) := by
  have h := Hlp.sameInts la ha lb hb A B n m c d xs xs w hx hy
  rwa [decide_eq_true rfl] at h
/-- A row of a call's own over lists that others hold. -/
def ShR (w0 wr : World) (v : Value) (n : Nat) (ps : List (List Int)) : Prop :=
  ∃ (b cap : Nat) (ss : List Sk), v = .slice (some ⟨b, 0, none⟩) n cap ∧ ss.map (·.xs) = ps ∧ RowO b (b + 1) wr (some ⟨b, 0, none⟩) n cap 1 (ss.map Sk.cell) ∧ w0.heap.size ≤ b ∧ b < wr.heap.size ∧ (∀ s ∈ ss, Ints 0 w0.heap.size wr s.A s.xs.length s.c s.xs) ∧ Below w0.heap.size w0 wr
theorem ShR.sts {w0 wr : World} {v : Value} {n : Nat} {ps : List (List Int)} (h : ShR w0 wr v n ps) : ∃ A c, v = .slice A n c ∧ Sts 0 wr.heap.size wr A n c ps ∧ Below w0.heap.size w0 wr := by
  obtain ⟨b, cap, ss, rfl, rfl, h3, h4, h5, h6, h7⟩ := h
  exact ⟨_, cap, rfl, ⟨ss, rfl, h3.1.mono (Nat.zero_le _) (by omega), fun s hs => (h6 s hs).mono (Nat.le_refl _) h7.size⟩, h7⟩
/-- append([][]int{}, list...). -/
theorem shR_of {w0 w5 : World} {g5 : Option Nat} {v5 : Value} {n : Nat} {ss : List Sk} (hn : 0 < n) (hl : ss.length = n) (hi : ∀ s ∈ ss, Ints 0 w0.heap.size w0 s.A s.xs.length s.c s.xs) (hd : Dest 23 1 g5 w5 v5 n (ss.map Sk.cell)) (hg : ∀ k, g5 = some k → w0.heap.size ≤ k) (hb : Below w0.heap.size w0 w5) : ShR w0 w5 v5 n (ss.map (·.xs)) := by
  rcases hd with ⟨_, hz, _⟩ | ⟨q, rfl, ha⟩
  · omega
  obtain ⟨cap, rfl, hr⟩ := ha.row
  exact ⟨q, cap, ss, rfl, rfl, hr, hg q rfl, ha.lt, fun s hs => (hi s hs).below' hb (Nat.le_refl _), hb⟩
theorem size_lose (w : World) (b k : Nat) (v : Value) : ((w.alloc (.cells #[] 3)).setCell ⟨b, k, none⟩ v).heap.size = w.heap.size + 1 := by simp [World.setCell]
/-- One list is taken away. -/
theorem ShR.lose {w0 wr : World} {v : Value} {n k : Nat} {ps : List (List Int)} (h : ShR w0 wr v n ps) (hk : k < n) :
    ∃ b cap, v = .slice (some ⟨b, 0, none⟩) n cap ∧ (∃ u, (wr.alloc (.cells #[] 3)).cell? ⟨b, k, none⟩ = some u) ∧ (wr.alloc (.cells #[] 3)).frozen? ⟨b, k, none⟩ = false ∧ ShR w0 ((wr.alloc (.cells #[] 3)).setCell ⟨b, k, none⟩ (.slice (some ⟨wr.heap.size, 0, none⟩) 0 0)) v n (ps.set k []) := by
  obtain ⟨b, cap, ss, rfl, rfl, h3, h4, h5, h6, h7⟩ := h
  have hal : Below wr.heap.size wr (wr.alloc (.cells #[] 3)) := (Below.refl _ _).alloc (Nat.le_refl _) _
  have h3' : RowO b (b + 1) (wr.alloc (.cells #[] 3)) (some ⟨b, 0, none⟩) n cap 1 (ss.map Sk.cell) := rowO_keepC h3 hal.size fun _ => hal.block b h5
  have hlen : ss.length = n := by have := h3.1.1; rw [List.length_map] at this; omega
  obtain ⟨b', off, e, _, _, hz, hc⟩ := h3'.1.2.2.2 (by omega)
  simp only [Option.some.injEq, Addr.mk.injEq, and_true] at e
  obtain ⟨rfl, rfl⟩ := e
  have hcell := hc k _ (List.getElem?_eq_getElem (by rw [List.length_map]; omega))
  have hfz := h3'.2 b 0 (by omega) rfl k (by omega)
  have hput := rowO_put h3' (i := k) (by omega) (.slice (some ⟨wr.heap.size, 0, none⟩) 0 0)
  rw [Nat.zero_add] at hcell hfz hput
  have hsz : ((wr.alloc (.cells #[] 3)).setCell ⟨b, k, none⟩ (.slice (some ⟨wr.heap.size, 0, none⟩) 0 0)).heap.size = (wr.alloc (.cells #[] 3)).heap.size := by simp [World.setCell]
  have hs2 := hal.size
  have hb : Below w0.heap.size wr ((wr.alloc (.cells #[] 3)).setCell ⟨b, k, none⟩ (.slice (some ⟨wr.heap.size, 0, none⟩) 0 0)) := (hal.mono h7.size).setCell (p := ⟨b, k, none⟩) h4 _
  refine ⟨b, cap, rfl, ⟨_, hcell⟩, hfz, b, cap, ss.set k ⟨[], some ⟨wr.heap.size, 0, none⟩, 0, 0⟩, rfl, by rw [List.map_set], by rw [List.map_set]; exact hput, h4, by omega, fun s hs => ?_, h7.trans hb⟩
  rcases List.mem_or_eq_of_mem_set hs with hs | rfl
  · exact (h6 s hs).below' hb (Nat.le_refl _)
  · exact ⟨rfl, Nat.le_refl _, Nat.zero_le _, fun hn => absurd hn (by simp)⟩
end H11
end Go.Proofs.Ytoghgliijjfppaa
