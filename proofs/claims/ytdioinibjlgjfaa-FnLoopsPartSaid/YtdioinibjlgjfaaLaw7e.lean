/-
  The law of chapter 12 on fewer links: it returns true and writes nothing that was there.
-/
import Derived.Test.YtdioinibjlgjfaaDr7c
import Derived.Test.YtdioinibjlgjfaaIla
import Derived.Test.YtdioinibjlgjfaaIm7b
import Derived.Test.YtdioinibjlgjfaaSp7a
namespace Go.Proofs.Ytdioinibjlgjfaa
open Go.RowKit
namespace Law7
open Il Sl Lc Rd LawB

/-- The list without place k. -/
def cutC (xs : List Cnt) (k : Nat) : List Cnt := xs.take k ++ xs.drop (k + 1)
theorem cut_len {xs : List Cnt} {k : Nat} (hk : k < xs.length) : (cutC xs k).length = xs.length - 1 := by
  unfold cutC
  rw [List.length_append, List.length_take, List.length_drop]
  omega
theorem cut_at {xs : List Cnt} {k : Nat} (hk : k < xs.length) (i : Nat) : cntAt (cutC xs k) i = if i < k then cntAt xs i else cntAt xs (i + 1) := by
  unfold cntAt cutC
  rw [List.getD_eq_getElem?_getD]
  by_cases h : i < k
  · rw [if_pos h, List.getElem?_append_left (by rw [List.length_take]; omega), List.getElem?_take_of_lt h, List.getD_eq_getElem?_getD]
  · rw [if_neg h, List.getElem?_append_right (by rw [List.length_take]; omega), List.getElem?_drop, List.length_take, List.getD_eq_getElem?_getD]
    rw [show k + 1 + (i - min k xs.length) = i + 1 by omega]
theorem cut_ok {xs : List Cnt} {k : Nat} (h : loopsOk xs = true) (hk : k < xs.length) : loopsOk (cutC xs k) = true := by
  rw [loopsOk_iff]
  intro i hi
  rw [cut_len hk] at hi
  unfold stepOk
  rw [Bool.and_eq_true, Bool.or_eq_true, cut_at hk, cut_at hk]
  constructor
  · split
    · exact ok_ix h (by omega)
    · exact ok_ix h (by omega)
  · rcases Nat.eq_zero_or_pos i with h0 | h0
    · left; subst h0; rfl
    · right
      by_cases h1 : i < k
      · rw [if_pos h1, if_pos (show i - 1 < k by omega)]
        have := ok_less h (k := i - 1) (by omega)
        rwa [show i - 1 + 1 = i by omega] at this
      · rw [if_neg h1]
        by_cases h2 : i - 1 < k
        · rw [if_pos h2]
          obtain rfl : i = k := by omega
          have e1 := ok_less h (k := i - 1) (by omega)
          rw [show i - 1 + 1 = i by omega] at e1
          have e2 := ok_less h (k := i) (by omega)
          rw [less_code (ok_ix h (by omega)) (ok_ix h (by omega))] at e1 e2 ⊢
          omega
        · rw [if_neg h2]
          have := ok_less h (k := i) (by omega)
          rwa [show i - 1 + 1 = i by omega]
theorem cnts_drop {lo hi b off n c : Nat} {w : World} {xs : List Cnt} (h : Cnts lo hi w (some ⟨b, off, none⟩) n c xs) (k : Nat) (hk : k ≤ n) : Cnts lo hi w (some ⟨b, off + k * 4, none⟩) (n - k) (c - k) (xs.drop k) := by
  have hl := h.1
  refine ⟨?_, ?_, ?_, fun hn => ?_⟩
  · rw [flat_drop cells_len, List.length_drop, hl, Nat.sub_mul]
  · have := h.cap_; omega
  · have := h.2.2.1; omega
  · obtain ⟨b', off', e, hb, hb', hz, hc⟩ := h.2.2.2 (by omega)
    simp only [Option.some.injEq, Addr.mk.injEq, and_true] at e
    obtain ⟨rfl, rfl⟩ := e
    refine ⟨b, off + k * 4, rfl, hb, hb', hz, fun j v hj => ?_⟩
    rw [flat_drop cells_len, List.getElem?_drop] at hj
    have := hc _ v hj
    rwa [← Nat.add_assoc] at this
section
variable {o : Oper} {a : Act} {Q : Exit → Act → World → Prop} {K : Act → World → Prop}
theorem step_cAppL {ops : Array Oper} {E : Prop} (w0 w : World) (v : Value) (xs : List Cnt) (hacc : CAcc w0 w v xs) (lo hi : Nat) (B : Option Addr) (m d : Nat) (ys : List Cnt) (hx : Cnts lo hi w B m d ys) (hl : xs.length + m ≤ 1000000) (s y : Operand)
    (hgd : o.guard = none) (ho : o.op = .call { callee := .builtin .append, args := #[s, y], argTypes := #[23, 23] }) (hs : a.eval s = v) (hy : a.eval y = .slice B m d)
    (h : ∀ v' w', CAcc w0 w' v' (xs ++ ys) → Below w0.heap.size w w' → K (a.put o.dst v') w') :
    if Region.wanted o (yielded ops a.tmps) = true then Oper.wp Try.prog o a w K Q else E := by
  obtain ⟨g, h1, h2, h3, h4⟩ := hacc.dest
  have hyl := hx.len_
  subst hyl
  refine step_appD elCnt (some g) _ v _ _ h3 lo hi B ys.length d _ hx (flat_one ys) hl s y hgd ho hs hy fun g' v' w' q1 q2 q3 => ?_
  exact h v' w' (cacc_app h1 h4 q1 q2 q3) ((Below.refl w0.heap.size w).grown q3 h4.size fun k hk => by cases hk; exact h1)
end
theorem cacc_drew {w0 w : World} {v : Value} {xs : List Cnt} (h : CAcc w0 w v xs) : CAcc w0 w.drew v xs := by
  obtain ⟨g, h1, ⟨cap, e, ho⟩, h3⟩ := h
  exact ⟨g, h1, ⟨cap, e, ho⟩, ⟨h3.os, h3.tape, h3.output, h3.size, h3.block⟩⟩
theorem cnts_rest {lo hi b off n c k : Nat} {w : World} {xs : List Cnt} (h : Cnts lo hi w (some ⟨b, off, none⟩) n c xs) (hk : k + 1 ≤ n) : Cnts lo hi w (if c = k + 1 then some ⟨b, off, none⟩ else some ⟨b, off + (k + 1) * 4, none⟩) (n - (k + 1)) (c - (k + 1)) (xs.drop (k + 1)) := by
  split
  · have h1 := h.cap_
    have h2 := h.len_
    obtain rfl : n = k + 1 := by omega
    rw [Nat.sub_self, List.drop_eq_nil_of_le (by omega)]
    exact Cnts.nil_ (by unfold maxLen; omega)
  · exact cnts_drop h (k + 1) hk
set_option maxRecDepth 20000 in
set_option maxHeartbeats 1000000 in
theorem fnLoopsPart (A : Option Addr) (n c : Nat) (B : Option Addr) (m d : Nat) (w : World) (h : CodeIs w A n c) :
    Calls Try.prog 12 #[.slice A n c, .slice B m d] w (TruePost w) := by
  have HC := Lib.hid h
  clear h
  by_cases hn : 1048576 < n
  · have hd : decide ((1048576 : Int) < (n : Int)) = true := by simp; omega
    go_enter Try.func12, Try.ntmps12
    go_wp2
    go_ret
    exact ⟨rfl, Below.refl _ _⟩
  have hd : decide ((1048576 : Int) < (n : Int)) = false := by simp; omega
  by_cases hm : 1048576 < m
  · have hd2 : decide ((1048576 : Int) < (m : Int)) = true := by simp; omega
    go_enter Try.func12, Try.ntmps12
    go_wp2
    go_ret
    exact ⟨rfl, Below.refl _ _⟩
  have hd2 : decide ((1048576 : Int) < (m : Int)) = false := by simp; omega
  go_enter Try.func12, Try.ntmps12
  go_wp2_with fail
  ((with_reducible refine (DrawLoopsValid _ _ _ _ HC.out).mono ?_); rintro e w1 ⟨A1, c1, xs, rfl, hti, hl, hx, hb⟩)
  have HX := Lib.hid hx.cnts
  have HB := Lib.hid hb
  clear hti hx hb HC
  go_wp2_with fail
  ((with_reducible refine (Im7.LoopsValid _ _ _ _ _ xs _ HX.out).mono ?_); rintro e w2 ⟨rfl, hb⟩)
  replace HX := Lib.hid (HX.out.below hb (Nat.le_refl _))
  replace HB := Lib.hid (HB.out.trans (hb.mono HB.out.size))
  have HS := Lib.hid hb.size
  clear hb
  go_wp2_with fail
  ((with_reducible refine (Sp7.LoopsValid _ _ _ _ _ xs _ HX.out).mono ?_); rintro e w3 ⟨rfl, hb⟩)
  replace HX := Lib.hid (HX.out.below hb (Nat.le_refl _))
  replace HB := Lib.hid (HB.out.trans (hb.mono HB.out.size))
  replace HS := Lib.hid (Nat.le_trans HS.out hb.size)
  clear hb
  cases hok : loopsOk xs
  · go_wp2
    go_ret
    exact ⟨rfl, HB.out⟩
  · by_cases hz : xs.length = 0
    · obtain rfl := List.length_eq_zero_iff.1 hz
      go_wp2
      go_ret
      exact ⟨rfl, HB.out⟩
    · have hl0 : ((xs.length : Int) == 0) = false := by simp; intro h; exact hz (by rw [h]; rfl)
      have hl1 : ¬ ((xs.length : Int) = 0) := by omega
      have hj : Int.tmod (m : Int) (xs.length : Int) = ((m % xs.length : Nat) : Int) := by rw [Int.tmod_eq_emod_of_nonneg (by omega)]; rfl
      have hk : m % xs.length < xs.length := Nat.mod_lt _ (by omega)
      have HOK := Lib.hid (cut_ok hok hk)
      generalize m % xs.length = k at *
      obtain ⟨b, off, rfl, _, _, hbz, m0, m1, m2, m3⟩ := HX.out.at_ hk
      clear hok hz m0 m1 m2 m3
      have hcap := HX.out.cap_
      have hkc : k ≤ c1 := by omega
      have hk1 : k + 1 ≤ xs.length := hk
      have hk4 : (k : Int) + 1 ≤ (xs.length : Int) := by omega
      have hkw : IntKind.i64.wrap ((k : Int) + 1) = (k : Int) + 1 := IntWalk.i64_in _ (by omega)
      have hk2 : (0 : Int) ≤ (k : Int) + 1 := by omega
      have hk3 : ((k : Int) + 1).toNat = k + 1 := by omega
      have HA : Hid (CAcc w3 (w3.alloc (.cells #[] 39)).drew (.slice (some ⟨w3.heap.size, 0, none⟩) 0 0) []) := cacc_drew (cacc_new w3)
      have hX4 := HX.out.below ((Below.refl _ _).alloc (Nat.le_refl _) (.cells #[] 39)) (Nat.le_refl _)
      have HX4 : Hid (Cnts w.heap.size w1.heap.size (w3.alloc (.cells #[] 39)).drew (some ⟨b, off, none⟩) xs.length c1 xs) := hX4
      have HT : Hid (Cnts w.heap.size w1.heap.size (w3.alloc (.cells #[] 39)).drew (some ⟨b, off, none⟩) k c1 (xs.take k)) := HX4.out.take (by omega)
      clear hX4
      have htl : (xs.take k).length ≤ 64 := by rw [List.length_take]; omega
      go_wp2
      go_region_law (first
        | (refine step_cAppL w3 _ _ [] HA.out _ _ _ k c1 (xs.take k) HT.out (by simp only [List.length_nil]; omega) (.tmp 43) (.tmp 46) rfl rfl (by go_simp) (by go_simp) ?_; intro v5 w5 hN5 hB5; rw [List.nil_append] at hN5
           have HD5 := Lib.hid (cnts_rest (k := k) (HX4.out.below' hB5 HS.out) hk))
        | (refine step_cAppL w3 _ _ (xs.take k) hN5 _ _ _ (xs.length - (k + 1)) (c1 - (k + 1)) (xs.drop (k + 1)) HD5.out (by omega) (.tmp 47) (.tmp 51) rfl rfl (by go_simp) (by go_simp) ?_; intro v6 w6 hN6 hB6
           have hN6c : CAcc w3 w6 v6 (cutC xs k) := hN6
           have HOK6 := Lib.hid HOK.out; clear hN6; generalize cutC xs k = cs at hN6c HOK6; have hO6 := hN6c.own; obtain ⟨A6, c6, rfl, ho6, hb6⟩ := hO6)
        | (go_simp; go_at_call 24; refine (Im7.LoopsValid _ _ _ _ _ cs _ ho6.cnts).mono ?_; rintro e w7 ⟨rfl, hb7⟩; rw [HOK6.out])
        | (trace_state; fail))
      all_goals
        have HBB := Lib.hid (HB.out.trans ((hb6.trans (hb7.mono hb6.size)).mono HB.out.size))
        clear hb7 hb6 ho6 hN6c HOK6 HD5 hB5 hN5 HT HX4 HA HX HB HS HOK
        go_wp2
        all_goals
          go_ret
          exact ⟨rfl, HBB.out⟩

end Law7
end Go.Proofs.Ytdioinibjlgjfaa
