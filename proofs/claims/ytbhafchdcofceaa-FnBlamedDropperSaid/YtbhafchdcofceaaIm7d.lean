/-
  Contracts of the program's chapter 12: rates, blamed mixes.
-/
import Derived.Test.YtbhafchdcofceaaIm7c
namespace Go.Proofs.Ytbhafchdcofceaa
open Go.RowKit
namespace Im7
open Il Sl Lc Sp2 Nm Sp7 Mp

theorem ok_wf {xs : List Cnt} (h : loopsOk xs = true) : ∀ x ∈ xs, wf x.fr ∧ wf x.to_ := fun x hx => by
  have := okC_iff.1 (ok_at h hx)
  exact ⟨wf_small (by omega), wf_small (by omega)⟩
set_option maxRecDepth 20000 in
theorem LoopRate (lo hi : Nat) (A : Option Addr) (n c : Nat) (xs : List Cnt) (f t : Int) (w : World) (hx : Cnts lo hi w A n c xs) (hh : hi ≤ w.heap.size) (hf : wf f) (ht : wf t) :
    Calls Try.prog 12 #[.slice A n c, .int .i64 f, .int .i64 t] w (RatePost (rateL xs f t) w) := by
  have HX := Lib.hid hx
  have HH := Lib.hid hh
  clear hx hh
  cases h1 : loopsOk xs
  · have HV : Hid (rateL xs f t = (0, 0)) := by show rateL xs f t = _; unfold rateL; rw [h1]; rfl
    go_enter Try.func12, Try.ntmps12
    go_wp2_with fail
    ((with_reducible refine (LoopsValid _ _ _ _ _ xs _ HX.out).mono ?_); rintro e w1 ⟨rfl, hb⟩)
    rw [h1]
    have HB := Lib.hid hb
    clear h1 hb
    go_wp2
    go_ret2
    rw [HV.out]
    exact ⟨rfl, HB.out⟩
  · have HV := Lib.hid (gOf_rate h1 f t)
    have HW := Lib.hid (ok_wf h1)
    have HKF := Lib.hid hf
    have HKT := Lib.hid ht
    clear hf ht
    go_enter Try.func12, Try.ntmps12
    go_wp2_with fail
    ((with_reducible refine (LoopsValid _ _ _ _ _ xs _ HX.out).mono ?_); rintro e w1 ⟨rfl, hb⟩)
    rw [h1]
    have HX1 := Lib.hid (HX.out.below hb (Nat.le_refl _) |>.below (Below.refl w1.heap.size w1) (Nat.le_refl _))
    have HC1 : Hid (Cnts lo hi w1 A n c xs) := by
      refine Row.keep HX.out hb.size fun b _ h2 h3 => hb.block b h3
    have HB1 := Lib.hid hb
    have HH1 : Hid (hi ≤ w1.heap.size) := Nat.le_trans HH.out hb.size
    clear h1 hb HX1 HX
    go_wp2_with fail
    ((with_reducible refine (mapOfCounts _ _ _ _ _ xs _ HC1.out HH1.out HW.out).mono ?_); rintro e w2 ⟨b, rfl, hbz, hM, hb⟩)
    have HB2 := Lib.hid (HB1.out.trans (hb.mono HB1.out.size))
    obtain ⟨l, hkey⟩ := keyL (p := (f, t)) HKF.out HKT.out
    have hrun0 := hM.lookup keyedL mk2_inj Try.underlying54 (zeroLoops w2) hkey
    clear hbz hM hb hkey HC1 HB1 HW
    cases hg : gOf xs (f, t) with
    | none =>
      rw [hg] at hrun0 HV
      have hrun : (Instr.lookup 54 (.map (some b)) (.agg #[.int .i64 f, .int .i64 t]) false).run Try.prog w2 = .ok (.agg #[.int .i64 0, .int .i64 0]) w2 := hrun0
      have HB3 := Lib.hid (HB2.out.alloc HB2.out.size (.cells #[.int .i64 0, .int .i64 0] 59))
      clear hrun0 hg
      go_wp2
      go_quiet (fail)
      go_wp2
      go_ret2
      rw [HV.out]
      exact ⟨rfl, below_dr HB3.out⟩
    | some v =>
      obtain ⟨s, r⟩ := v
      rw [hg] at hrun0 HV
      have hrun : (Instr.lookup 54 (.map (some b)) (.agg #[.int .i64 f, .int .i64 t]) false).run Try.prog w2 = .ok (.agg #[.int .i64 s, .int .i64 r]) w2 := hrun0
      have HB3 := Lib.hid (HB2.out.alloc HB2.out.size (.cells #[.int .i64 s, .int .i64 r] 59))
      clear hrun0 hg
      go_wp2
      go_quiet (fail)
      go_wp2
      go_ret2
      rw [HV.out]
      exact ⟨rfl, below_dr HB3.out⟩

/-- How many links of a list begin or end at a mix. -/
def cnt2 (xs : List Cnt) (n : Int) : Nat := xs.countP (fun x => decide (x.fr = n)) + xs.countP (fun x => decide (x.to_ = n))
theorem cnt2_snoc (xs : List Cnt) (x : Cnt) (n : Int) : cnt2 (xs ++ [x]) n = cnt2 xs n + (if x.fr = n then 1 else 0) + (if x.to_ = n then 1 else 0) := by
  unfold cnt2
  rw [List.countP_append, List.countP_append]
  by_cases h1 : x.fr = n <;> by_cases h2 : x.to_ = n <;> simp [h1, h2] <;> omega
theorem cnt2_le (xs : List Cnt) (n : Int) : cnt2 xs n ≤ 2 * xs.length := by
  unfold cnt2
  have h1 := List.countP_le_length (p := fun x : Cnt => decide (x.fr = n)) (l := xs)
  have h2 := List.countP_le_length (p := fun x : Cnt => decide (x.to_ = n)) (l := xs)
  omega
theorem cnt2_cntN {xs : List Cnt} (h : ∀ x ∈ xs, x.fr ≠ x.to_) (n : Int) : cnt2 xs n = cntN xs n := by
  induction xs with
  | nil => rfl
  | cons x xs ih =>
    have h1 := ih (fun y hy => h y (List.mem_cons_of_mem _ hy))
    have h2 := h x List.mem_cons_self
    unfold cnt2 cntN touch at *
    rw [List.countP_cons, List.countP_cons, List.countP_cons]
    by_cases q1 : x.fr = n
    · have q2 : ¬ x.to_ = n := fun e => h2 (q1.trans e.symm)
      simp [q1, q2]; omega
    · by_cases q2 : x.to_ = n
      · simp [q1, q2]; omega
      · simp [q1, q2]; omega
abbrev MapI := MapG (κ := Int) (ν := Int) Try.prog 3 (Value.int .i64) (Value.int .i64)
theorem keyedI : Maps.Keyed Try.prog 3 := Maps.int_keyed Try.underlying3
theorem intInj (a c : Int) (h : Value.int .i64 a = Value.int .i64 c) : a = c := by simpa using h
theorem keyI {x : Int} (h : wf x) : keyOf Try.prog 3 (.int .i64 x) = some (.int .i64 x) := Maps.keyOf_int_mk Try.underlying3 h
theorem zeroInt (w : World) : (zeroValue 3).run Try.prog w = .ok (.int .i64 0) w := by kernel_rfl
/-- What a map holds at a number. -/
def gAt (G : Int → Option Int) (x : Int) : Int := match G x with | some v => v | none => 0
theorem lookI {w : World} {b n : Nat} {G : Int → Option Int} (h : MapI w b n G) {x : Int} (hw : wf x) : (Instr.lookup 66 (.map (some b)) (.int .i64 x) false).run Try.prog w = .ok (.int .i64 (gAt G x)) w := by
  have h1 := h.lookup keyedI intInj Try.underlying66 (zeroInt w) (keyI hw)
  rw [h1]
  unfold gAt
  cases G x <;> rfl
theorem gAt_set (G : Int → Option Int) (a v x : Int) : gAt (fun c => if c = a then some v else G c) x = if x = a then v else gAt G x := by
  unfold gAt
  by_cases h : x = a <;> simp [h]
/-- Block b counts the links of a list. -/
def Links (w : World) (b n : Nat) (xs : List Cnt) : Prop := ∃ G, MapI w b n G ∧ ∀ x, gAt G x = (cnt2 xs x : Int)
theorem Links.look {w : World} {b n : Nat} {xs : List Cnt} (h : Links w b n xs) {x : Int} (hw : wf x) : (Instr.lookup 66 (.map (some b)) (.int .i64 x) false).run Try.prog w = .ok (.int .i64 (cnt2 xs x : Int)) w := by
  obtain ⟨G, h1, h2⟩ := h
  rw [← h2]
  exact lookI h1 hw
theorem Links.same {w w' : World} {b n : Nat} {xs : List Cnt} (h : Links w b n xs) (hs : w'.heap[b]? = w.heap[b]?) : Links w' b n xs := by
  obtain ⟨G, h1, h2⟩ := h
  exact ⟨G, h1.same hs, h2⟩
theorem Links.lt {w : World} {b n : Nat} {xs : List Cnt} (h : Links w b n xs) : b < w.heap.size := by
  obtain ⟨G, h1, h2⟩ := h
  exact h1.lt
theorem Links.below {w w' : World} {b n : Nat} {xs : List Cnt} (h : Links w b n xs) (hb : Below w.heap.size w w') : Links w' b n xs := h.same (hb.block b h.lt)
def LomPost (xs : List Cnt) (w : World) (e : Ending) (w' : World) : Prop := ∃ b n, e = .returned (.map (some b)) ∧ w.heap.size ≤ b ∧ Links w' b n xs ∧ Below w.heap.size w w'
def LoRel (lo hi : Nat) (w wr : World) (A : Option Addr) (n c : Nat) (xs : List Cnt) (k : Nat) : Prop := Cnts lo hi wr A n c xs ∧ Links wr w.heap.size (2 * k) (xs.take k) ∧ Below w.heap.size w wr

/-- Both ends of a link are counted. -/
theorem links_add {w2 : World} {b n : Nat} {xs : List Cnt} {x : Cnt} (h : Links w2 b n xs) (h1 : wf x.fr) (h2 : wf x.to_) :
    ∃ w3 w4 q, (Instr.mapUpdate 66 (.map (some b)) (.int .i64 x.fr) (.int .i64 ((cnt2 xs x.fr : Int) + 1))).run Try.prog w2 = .ok () w3 ∧
      (Instr.lookup 66 (.map (some b)) (.int .i64 x.to_) false).run Try.prog w3 = .ok (.int .i64 q) w3 ∧ 0 ≤ q ∧ q ≤ 2 * xs.length + 1 ∧
      (Instr.mapUpdate 66 (.map (some b)) (.int .i64 x.to_) (.int .i64 (q + 1))).run Try.prog w3 = .ok () w4 ∧ Links w4 b (n + 1 + 1) (xs ++ [x]) ∧ w2.grownBy w3 (some b) ∧ w3.heap.size = w2.heap.size ∧ w3.grownBy w4 (some b) ∧ w4.heap.size = w3.heap.size := by
  obtain ⟨G, hM, hG⟩ := h
  obtain ⟨w3, r3, hM3, g3, s3⟩ := hM.update keyedI intInj Try.underlying66 (keyI h1) ((cnt2 xs x.fr : Int) + 1)
  have l3 := lookI hM3 h2
  obtain ⟨w4, r4, hM4, g4, s4⟩ := hM3.update keyedI intInj Try.underlying66 (keyI h2) (gAt (fun c => if c = x.fr then some ((cnt2 xs x.fr : Int) + 1) else G c) x.to_ + 1)
  have b1 := cnt2_le xs x.fr
  have b2 := cnt2_le xs x.to_
  refine ⟨w3, w4, _, r3, l3, ?_, ?_, r4, ⟨_, hM4, fun y => ?_⟩, g3, s3, g4, s4⟩
  · rw [gAt_set, hG]; split <;> omega
  · rw [gAt_set, hG]; split <;> omega
  · rw [gAt_set, gAt_set, gAt_set, hG, hG, cnt2_snoc]
    by_cases q1 : y = x.to_
    · subst q1
      by_cases q2 : x.to_ = x.fr
      · rw [if_pos rfl, if_pos q2, if_pos q2.symm, if_pos rfl, q2]; omega
      · rw [if_pos rfl, if_neg q2, if_neg (fun e => q2 e.symm), if_pos rfl]; omega
    · by_cases q2 : y = x.fr
      · subst q2
        rw [if_neg q1, if_pos rfl, if_pos rfl, if_neg (fun e => q1 e.symm)]; omega
      · rw [if_neg q1, if_neg q2, if_neg (fun e => q2 e.symm), if_neg (fun e => q1 e.symm)]; omega
set_option maxRecDepth 20000 in
set_option maxHeartbeats 1000000 in
theorem linksOfMixes (lo hi : Nat) (A : Option Addr) (n c : Nat) (xs : List Cnt) (w : World) (hx : Cnts lo hi w A n c xs) (hh : hi ≤ w.heap.size) (hw : ∀ x ∈ xs, wf x.fr ∧ wf x.to_) (hn : n ≤ 10000000) :
    Calls Try.prog 39 #[.slice A n c] w (LomPost xs w) := by
  have hc1 := hx.max_
  have hc2 := hx.cap_
  have HL := Lib.hid hx.len_
  have HH := Lib.hid hh
  have HW := Lib.hid hw
  have hmm := @run_makeMap Try.prog
  have HX0 : Hid (LoRel lo hi w (w.alloc (.map #[] 0)) A n c xs 0) := ⟨hx.below ((Below.refl _ _).alloc (Nat.le_refl _) _) (Nat.le_refl _), ⟨_, mapG_made _ _ _ _ w, fun x => by rw [List.take_zero]; rfl⟩, (Below.refl _ _).alloc (Nat.le_refl _) _⟩
  clear hx hh hw
  go_enter Try.func39, Try.ntmps39
  go_wp2
  go_loopw [9] (fun i wr => ∃ k : Nat, k ≤ n ∧ i = .int .i64 k ∧ Hid (LoRel lo hi w wr A n c xs k)) (fun i _ => n - (intOf i).toNat)
  case atStart => exact ⟨0, Nat.zero_le _, rfl, HX0.out⟩
  case round =>
    obtain ⟨k, hk, rfl, hR⟩ := hrel
    clear HX0
    by_cases hlt : k < n
    · have HGT := Lib.hid (take_cnt (xs := xs) (k := k) (by rw [HL.out]; exact hlt))
      have HWK := Lib.hid (HW.out _ (cntAt_mem (xs := xs) (k := k) (by rw [HL.out]; exact hlt)))
      obtain ⟨b, off, rfl, _, _, hbz, c0, c1, c2, c3⟩ := hR.out.1.at_ hlt
      have htl : (xs.take k).length = k := by rw [List.length_take, HL.out]; omega
      generalize cntAt xs k = x at *
      have hb1 : Below wr.heap.size wr (wr.alloc (.cells #[.int .i64 x.fr, .int .i64 x.to_, .int .i64 x.se, .int .i64 x.ba] 37)) := (Below.refl _ _).alloc (Nat.le_refl _) _
      have hM2 := hR.out.2.1.below hb1
      have HC := Lib.hid (hR.out.1.below hb1 (Nat.le_refl _))
      have HB := Lib.hid (hR.out.2.2.trans (hb1.mono hR.out.2.2.size))
      obtain ⟨z0, z1, z2, z3⟩ := four_new wr (.int .i64 x.fr) (.int .i64 x.to_) (.int .i64 x.se) (.int .i64 x.ba) 37
      have hwz : wr.heap.size ≠ w.heap.size := fun e => by have := hR.out.2.1.lt; omega
      have hl1 := hM2.look HWK.out.1
      have hcb := cnt2_le (xs.take k) x.fr
      rw [htl] at hcb
      obtain ⟨w3, w4, q, hr3, hl3, hq0, hq1, hr4, hM4, g3, s3, g4, s4⟩ := links_add hM2 HWK.out.1 HWK.out.2
      rw [htl] at hq1
      rw [← HGT.out] at hM4
      have z1' := (World.cell?_of_block (g3.block wr.heap.size (by simp) (by simpa using hwz))).trans z1
      have HG : Hid (LoRel lo hi w w4 (some ⟨b, off, none⟩) n c xs (k + 1)) := by
        refine ⟨(HC.out.grown g3 (fun q hq => by cases hq; exact .inr HH.out)).grown g4 (fun q hq => by cases hq; exact .inr HH.out), ?_, (HB.out.grown g3 HB.out.size (fun q hq => by cases hq; exact Nat.le_refl _)).grown g4 (by have := HB.out.size; omega) (fun q hq => by cases hq; exact Nat.le_refl _)⟩
        have e2 : 2 * (k + 1) = 2 * k + 1 + 1 := by omega
        rw [e2]; exact hM4
      clear hR hb1 hM2 HC HB hM4 g3 g4 HGT HWK htl
      generalize cnt2 (xs.take k) x.fr = p at *
      go_wp2
      go_roundw
      case rel => exact ⟨k + 1, by omega, by go_num, HG.out⟩
      case measure => simp [intOf]; omega
    · obtain rfl : k = n := by omega
      have HF : Hid (xs.take k = xs) := List.take_of_length_le (by rw [HL.out]; exact Nat.le_refl _)
      clear hlt
      go_wp2
      go_ret
      obtain ⟨_, h2, h3⟩ := hR.out
      rw [HF.out] at h2
      exact ⟨_, _, rfl, Nat.le_refl _, h2, h3⟩

theorem suspL_sub {xs : List Cnt} {num den : Int} {x : Cnt} (h : x ∈ suspL xs num den) : x ∈ xs := by
  unfold suspL at h
  cases hb : loopsOk xs && partOk num den
  · rw [hb] at h; simp at h
  · rw [hb] at h; exact (List.mem_filter.1 h).1
theorem suspL_len (xs : List Cnt) (num den : Int) : (suspL xs num den).length ≤ xs.length := by
  unfold suspL
  cases loopsOk xs && partOk num den
  · simp
  · exact List.length_filter_le _ _
/-- What the program asks of a mix. -/
def blB (xs : List Cnt) (num den n : Int) : Bool := decide (0 < cnt2 (suspL xs num den) n) && decide (cnt2 (suspL xs num den) n = cnt2 xs n)
theorem blamed_is (xs : List Cnt) (num den : Int) : blamedL xs num den = names.filter (blB xs num den) := by
  unfold blamedL
  cases hb : loopsOk xs && partOk num den
  · have e : ∀ n, blB xs num den n = false := fun n => by
      unfold blB suspL
      rw [hb]
      simp [cnt2]
    rw [show names.filter (blB xs num den) = [] from List.filter_eq_nil_iff.2 (fun n _ => by rw [e n]; simp)]
    rfl
  · have h2 := hb
    rw [Bool.and_eq_true] at h2
    have hne : ∀ x ∈ xs, x.fr ≠ x.to_ := fun x hx => (okC_iff.1 (ok_at h2.1 hx)).2.2.1
    apply List.filter_congr
    intro n _
    unfold blameB blB suspL
    rw [hb]
    rw [cnt2_cntN hne, cnt2_cntN (xs := bif true then xs.filter (suspC num den) else []) (fun x hx => hne x (List.mem_filter.1 hx).1)]
    simp only [cond_true]
    apply Bool.eq_iff_iff.2
    simp only [Bool.and_eq_true, decide_eq_true_eq]
    constructor
    · rintro ⟨q1, q2⟩
      exact ⟨by omega, q2⟩
    · rintro ⟨q1, q2⟩
      exact ⟨by omega, q2⟩

/-- append(out, x): all but rows of numbers stands as it was. -/
def OthersI (w w' : World) : Prop := ∀ (q : Nat) (o : Obj), w.heap[q]? = some o → (∀ cs fr, o ≠ Obj.cells cs 3 fr) → w'.heap[q]? = some o
theorem wpList_app1K {o : Oper} {a : Act} {Q : Exit → Act → World → Prop} {ops : Array Oper} {rest : List Oper} (w0 w : World) (v : Value) (ys : List Int) (x : Int) (hacc : Acc w0 w v ys) (hl : ys.length ≤ 10000000) (s y : Operand)
    (hgd : o.guard = none) (ho : o.op = .call { callee := .builtin .append, args := #[s, y], argTypes := #[24, 24] })
    (hs : a.eval s = v) (hy : a.eval y = .slice (some ⟨w.heap.size, 0, none⟩) 1 1)
    (h : ∀ v' w', Acc w0 w' v' (ys ++ [x]) → Below w0.heap.size w w' → OthersI w w' → wpList Try.prog ops Q rest (a.put o.dst v') w') : wpList Try.prog ops Q (o :: rest) a (w.alloc (.cells #[.int .i64 x] 3)) := by
  obtain ⟨i0, hi, hz0, hz1, hz2⟩ := info_parts infoInt
  refine wpList_append_own _ hgd s y 24 ho w0.heap.size 3 i0 (.int .i64 0) 1 8 Try.underlying24 hi hz0 hz1 hz2 rfl (by decide) v ys.length _ hs (hacc.1.alloc _) ⟨w.heap.size, 0, none⟩ 1 1 [.int .i64 x] hy rfl
    ?_ ?_ (by unfold maxLen; omega) (by omega) (by have := hacc.2.size; simp; omega) ?_
  · intro j u hj
    match j, hj with
    | 0, hj => simp at hj; subst hj; simp [Addr.add]
  · intro u hu; simp at hu; subst hu; rfl
  · intro v' w' h2 h3 _
    refine h v' w' (acc_step hacc h2 h3) (acc_below hacc h3) fun q o2 hq ho2 => ?_
    have hql := (Array.getElem?_eq_some_iff.1 hq).1
    refine (h3.block q (by simp; omega) (fun e => ?_)).trans ((Below.heap_alloc w _ q hql).trans hq)
    rcases hacc.1.2 with ⟨rfl, _⟩ | ⟨g1, cap1, cur, rfl, hb, hh, _⟩
    · simp [Value.ownBlock] at e
    · simp [Value.ownBlock] at e
      subst e
      rw [hh] at hq
      exact ho2 cur (0, 0) (Option.some.inj hq).symm

theorem Links.othersI {w w' : World} {b n : Nat} {xs : List Cnt} (h : Links w b n xs) (hO : OthersI w w') : Links w' b n xs := by
  obtain ⟨G, h1, h2⟩ := h
  exact ⟨G, h1.others hO, h2⟩
/-- What the loop of the program's LoopBlamed holds. -/
def PbRel (w wr : World) (b1 n1 b2 n2 : Nat) (xs ss : List Cnt) (v : Value) (ys : List Int) : Prop := Links wr b1 n1 ss ∧ Links wr b2 n2 xs ∧ Acc w wr v ys
set_option maxRecDepth 20000 in
set_option maxHeartbeats 1000000 in
theorem LoopBlamed (lo hi : Nat) (A : Option Addr) (n c : Nat) (xs : List Cnt) (num den : Int) (w : World) (hx : Cnts lo hi w A n c xs) (hh : hi ≤ w.heap.size) (hw : ∀ x ∈ xs, wf x.fr ∧ wf x.to_) (hn : n ≤ 10000000) :
    Calls Try.prog 15 #[.slice A n c, .int .i64 num, .int .i64 den] w (NewInts w (blamedL xs num den)) := by
  have HL := Lib.hid hx.len_
  have HX := Lib.hid hx
  have HH := Lib.hid hh
  have HW := Lib.hid hw
  have HV := Lib.hid (blamed_is xs num den)
  rw [HV.out]
  have HBL : Hid (∀ k : Nat, blB xs num den (k : Int) = (decide (0 < cnt2 (suspL xs num den) k) && decide (cnt2 (suspL xs num den) k = cnt2 xs k))) := fun _ => rfl
  clear hx hh hw
  go_enter Try.func15, Try.ntmps15
  go_wp2_with fail
  ((with_reducible refine (LoopSuspects _ _ _ _ _ xs num den _ HX.out HH.out).mono ?_); rintro e w1 ⟨A1, c1, rfl, ho1, hb⟩)
  have HS1 := Lib.hid ho1.cnts
  have HX1 : Hid (Cnts lo hi w1 A n c xs) := HX.out.below' hb HH.out
  have HB1 := Lib.hid hb
  have HSW : Hid (∀ x ∈ suspL xs num den, wf x.fr ∧ wf x.to_) := fun x hx => HW.out x (suspL_sub hx)
  have HSL := Lib.hid (suspL_len xs num den)
  generalize suspL xs num den = ss at *
  clear ho1 hb HX
  go_wp2_with fail
  ((with_reducible refine (linksOfMixes _ _ _ _ _ ss _ HS1.out (Nat.le_refl _) HSW.out (by have := HSL.out; have := HL.out; omega)).mono ?_); rintro e w2 ⟨b1, n1, rfl, hb1, hl1, hb⟩)
  have HL1 := Lib.hid hl1
  have HX2 : Hid (Cnts lo hi w2 A n c xs) := HX1.out.below' hb (Nat.le_trans HH.out HB1.out.size)
  have HB2 := Lib.hid (HB1.out.trans (hb.mono HB1.out.size))
  clear hl1 hb HS1 HX1 HB1 hb1
  go_wp2_with fail
  ((with_reducible refine (linksOfMixes _ _ _ _ _ xs _ HX2.out (Nat.le_trans HH.out HB2.out.size) HW.out hn).mono ?_); rintro e w3 ⟨b2, n2, rfl, hb2, hl2, hb⟩)
  have h0 : Below w3.heap.size w3 (w3.alloc (.cells #[] 3)) := (Below.refl _ _).alloc (Nat.le_refl _) _
  have HR0 : Hid (PbRel w (w3.alloc (.cells #[] 3)) b1 n1 b2 n2 xs ss (.slice (some ⟨w3.heap.size, 0, none⟩) 0 0) []) := by
    have hb3 := HB2.out.trans (hb.mono HB2.out.size)
    refine ⟨(HL1.out.below hb).below h0, hl2.below h0, ?_⟩
    exact ⟨World.ownsRow_made w3 #[] 0 hb3.size (Nat.zero_le _) rfl, grown_of_below (hb3.alloc hb3.size _)⟩
  clear hl2 hb HL1 HX2 HB2 hb2 h0
  go_wp2
  go_loopw [9, 10, 19] (fun v _ i wr => ∃ k : Nat, k ≤ 8 ∧ i = .int .i64 k ∧ Hid (PbRel w wr b1 n1 b2 n2 xs ss v ((nTo k).filter (blB xs num den)))) (fun _ _ i _ => 8 - (intOf i).toNat)
  case atStart => exact ⟨0, by omega, rfl, HR0.out⟩
  case round =>
    obtain ⟨k, hk, rfl, hR⟩ := hrel
    clear HR0
    by_cases hlt : k < 8
    · have HST := Lib.hid (nTo_filter k (blB xs num den))
      have HFL := Lib.hid (nTo_flen k (blB xs num den))
      have HBK := Lib.hid (HBL.out k)
      generalize (nTo k).filter (blB xs num den) = ys at *
      have e8 : decide ((k : Int) < 8) = true := by simp; omega
      have hkw : wf (k : Int) := wf_small (by omega)
      have hl1 := hR.out.1.look hkw
      have hl2 := hR.out.2.1.look hkw
      clear hkw
      generalize cnt2 ss (k : Int) = p at *
      generalize cnt2 xs (k : Int) = q at *
      rcases Nat.eq_zero_or_pos p with h0 | h0
      · have e0 : decide (0 < p) = false := by simp; omega
        have HB := Lib.hid (HBK.out.trans (by rw [e0, Bool.false_and]))
        rw [HB.out] at HST
        simp only [cond_false, List.append_nil] at HST
        clear HBK HB h0
        go_wp2
        go_roundw
        case rel => exact ⟨k + 1, by omega, by go_num, by show PbRel _ _ _ _ _ _ _ _ _ _; rw [HST.out]; exact hR.out⟩
        case measure => simp [intOf]; omega
      · have e0 : decide (0 < p) = true := by simp; omega
        by_cases hab : p = q
        · have HB := Lib.hid (HBK.out.trans (by rw [e0, decide_eq_true hab, Bool.true_and]))
          rw [HB.out] at HST
          simp only [cond_true] at HST
          subst hab
          clear HBK HB h0
          go_wp2_with (at_builtin; refine wpList_app1K w _ _ _ _ hR.out.2.2 (by have := HFL.out; omega) _ _ rfl rfl rfl rfl ?_; intro v' w6 hN hB hO)
          have HR4 : Hid (PbRel w w6 b1 n1 b2 n2 xs ss v' (ys ++ [(k : Int)])) := ⟨hR.out.1.othersI hO, hR.out.2.1.othersI hO, hN⟩
          clear hN hB hO hR
          go_wp2
          go_roundw
          case rel => exact ⟨k + 1, by omega, by go_num, by show PbRel _ _ _ _ _ _ _ _ _ _; rw [HST.out]; exact HR4.out⟩
          case measure => simp [intOf]; omega
        · have HB := Lib.hid (HBK.out.trans (by rw [e0, decide_eq_false hab, Bool.and_false]))
          rw [HB.out] at HST
          simp only [cond_false, List.append_nil] at HST
          have e1 : (p == q) = false := by simpa using hab
          have e2 : ((p : Int) == (q : Int)) = false := by simp; omega
          clear HBK HB h0
          go_wp2
          go_roundw
          case rel => exact ⟨k + 1, by omega, by go_num, by show PbRel _ _ _ _ _ _ _ _ _ _; rw [HST.out]; exact hR.out⟩
          case measure => simp [intOf]; omega
    · obtain rfl : k = 8 := by omega
      rw [nTo_8] at hR
      clear hlt
      go_wp2
      go_ret
      exact hR.out.2.2.post

end Im7
end Go.Proofs.Ytbhafchdcofceaa
