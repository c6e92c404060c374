/-
  Contracts of the program's chapter 12: counts in a map, rates.
-/
import Derived.Test.YtbhafchdcofceaaIm7b
import Derived.Test.YtbhafchdcofceaaLq
import Derived.Test.YtbhafchdcofceaaMp
namespace Go.Proofs.Ytbhafchdcofceaa
open Go.RowKit
namespace Im7
open Il Sl Lc Sp2 Nm Sp7 Mp

/-- Two numbers as a struct. -/
def mk2 (p : Int × Int) : Value := .agg #[.int .i64 p.1, .int .i64 p.2]
theorem mk2_inj (p q : Int × Int) (h : mk2 p = mk2 q) : p = q := by
  unfold mk2 at h
  simp at h
  exact Prod.ext h.1 h.2
def wf (x : Int) : Prop := (Lit.int .i64 x).wf = true
theorem wf_small {x : Int} (h : -1000 ≤ x ∧ x ≤ 1000) : wf x := WalkArith.wf_i64 (by omega)
theorem laidOut : laidOutB Try.prog = true := by kernel_rfl
theorem keyedL : Maps.Keyed Try.prog 57 := Maps.Keyed.of_law (deep_law_laid laidOut (m := 5) (by omega) (of_decide_eq_true (by kernel_rfl)) (by kernel_rfl) (by kernel_rfl))
/-- A struct of two numbers is a key. -/
theorem keyOf_two {P : Program} {k e : TypeId} {f0 f1 : Field} {m : Nat} (hu : P.underlying k = some (.struct #[f0, f1])) (t0 : f0.type = e) (t1 : f1.type = e) (o0 : f0.offset = 0) (o1 : f1.offset = 1) (n0 : (f0.name != "_") = true) (n1 : (f1.name != "_") = true)
    (he : P.underlying e = some (.int .i64)) (hc : P.cellsOf k = 2) (hce : P.cellsOf e = 1) (hkt : P.keyType k = true) (hs : P.types.size = m + 1) {p : Int × Int} (hf : (mk2 p).formed P k = true) (h1 : wf p.1) (h2 : wf p.2) : ∃ l, keyOf P k (mk2 p) = some l := by
  unfold wf at h1 h2
  have l0 : P.keyLits (m + 1) e [.int .i64 p.1] = some [.int .i64 p.1] := by
    simp [Program.keyLits, he, h1]
  have l1 : P.keyLits (m + 1) e [.int .i64 p.2] = some [.int .i64 p.2] := by
    simp [Program.keyLits, he, h2]
  have hl : P.keyLits (m + 1 + 1) k [.int .i64 p.1, .int .i64 p.2] = some [.int .i64 p.1, .int .i64 p.2] := by
    unfold Program.keyLits
    simp [hu, hc, n0, n1, t0, t1, o0, o1, hce, l0, l1]
  unfold keyOf
  rw [hu]
  simp only [hkt, hf, Bool.and_self, if_true, hs]
  have hcs : (mk2 p).cells.toList = [.int .i64 p.1, .int .i64 p.2] := rfl
  rw [hcs, hl]
  exact ⟨_, rfl⟩
theorem cellsL : Try.prog.cellsOf 57 = 2 := by kernel_rfl
theorem keyL {p : Int × Int} (h1 : wf p.1) (h2 : wf p.2) : ∃ l, keyOf Try.prog 57 (mk2 p) = some l :=
  keyOf_two (e := 3) (m := Try.prog.types.size - 1) Try.underlying57 rfl rfl rfl rfl rfl rfl Try.underlying3 (by kernel_rfl) (by kernel_rfl) (by kernel_rfl) (by kernel_rfl) (by obtain ⟨x, y⟩ := p; simp [mk2, Value.formed, Try.underlying57, cellsL]) h1 h2
theorem zeroLoops (w : World) : (zeroValue 59).run Try.prog w = .ok (mk2 (0, 0)) w := by kernel_rfl
abbrev MapL := MapG (κ := Int × Int) (ν := Int × Int) Try.prog 57 mk2 mk2

/-- What a map holds behind the counts of a list. -/
def gOf (xs : List Cnt) : Int × Int → Option (Int × Int) := xs.foldl (fun G x p => if p = (x.fr, x.to_) then some (x.se, x.ba) else G p) (fun _ => none)
theorem gOf_snoc (xs : List Cnt) (x : Cnt) : gOf (xs ++ [x]) = fun p => if p = (x.fr, x.to_) then some (x.se, x.ba) else gOf xs p := by
  unfold gOf
  rw [List.foldl_append]; rfl
theorem gOf_take {xs : List Cnt} {k : Nat} (h : k < xs.length) : gOf (xs.take (k + 1)) = fun p => if p = ((cntAt xs k).fr, (cntAt xs k).to_) then some ((cntAt xs k).se, (cntAt xs k).ba) else gOf (xs.take k) p := by
  rw [take_cnt h, gOf_snoc]
theorem isL_iff {f t : Int} {c : Cnt} : isL f t c = true ↔ (f, t) = (c.fr, c.to_) := by
  unfold isL
  simp only [Bool.and_eq_true, decide_eq_true_eq, Prod.mk.injEq]
  exact ⟨fun h => ⟨h.1.symm, h.2.symm⟩, fun h => ⟨h.1.symm, h.2.symm⟩⟩
theorem ok_apart {xs : List Cnt} (h : loopsOk xs = true) {i j : Nat} (hij : i < j) (hj : j < xs.length) : code (cntAt xs i) < code (cntAt xs j) := by
  induction j with
  | zero => omega
  | succ j ih =>
    have h2 := (less_code (ok_ix h (by omega)) (ok_ix h hj)).1 (ok_less h hj)
    rcases Nat.lt_or_ge i j with q | q
    · have := ih q (by omega); omega
    · obtain rfl : i = j := by omega
      exact h2
theorem take_at {xs : List Cnt} {i k : Nat} (h : i < k) : cntAt (xs.take k) i = cntAt xs i := by
  unfold cntAt
  rw [List.getD_eq_getElem?_getD, List.getD_eq_getElem?_getD, List.getElem?_take_of_lt h]
theorem gOf_find {xs : List Cnt} (h : loopsOk xs = true) (k : Nat) (hk : k ≤ xs.length) (f t : Int) : gOf (xs.take k) (f, t) = ((xs.take k).find? (isL f t)).map fun c => (c.se, c.ba) := by
  induction k with
  | zero => simp [gOf]
  | succ k ih =>
    rw [gOf_take (by omega), take_cnt (by omega), List.find?_append]
    show (if (f, t) = _ then _ else gOf (xs.take k) (f, t)) = _
    rw [ih (by omega)]
    by_cases e : (f, t) = ((cntAt xs k).fr, (cntAt xs k).to_)
    · rw [if_pos e]
      have hn : (xs.take k).find? (isL f t) = none := by
        apply find_none
        intro i hi
        rw [List.length_take] at hi
        rw [take_at (by omega)]
        cases hb : isL f t (cntAt xs i) with
        | false => rfl
        | true =>
          have e2 := isL_iff.1 hb
          rw [e2] at e
          simp only [Prod.mk.injEq] at e
          have := ok_apart h (i := i) (j := k) (by omega) (by omega)
          unfold code at this
          omega
      rw [hn]
      simp [isL_iff.2 e]
    · rw [if_neg e]
      have hf : isL f t (cntAt xs k) = false := by
        cases hb : isL f t (cntAt xs k) with
        | false => rfl
        | true => exact absurd (isL_iff.1 hb) e
      simp [hf]
theorem gOf_rate {xs : List Cnt} (h : loopsOk xs = true) (f t : Int) : rateL xs f t = match gOf xs (f, t) with | some v => (v.2, v.1) | none => (0, 0) := by
  have h1 := gOf_find h xs.length (Nat.le_refl _) f t
  rw [List.take_length] at h1
  rw [h1]
  unfold rateL
  rw [h]
  cases xs.find? (isL f t) <;> rfl

/-- What mapOfCounts hands back. -/
def MocPost (xs : List Cnt) (w : World) (e : Ending) (w' : World) : Prop := ∃ b, e = .returned (.map (some b)) ∧ w.heap.size ≤ b ∧ MapL w' b xs.length (gOf xs) ∧ Below w.heap.size w w'
def MoRel (lo hi : Nat) (w wr : World) (A : Option Addr) (n c : Nat) (xs : List Cnt) (k : Nat) : Prop := Cnts lo hi wr A n c xs ∧ MapL wr w.heap.size k (gOf (xs.take k)) ∧ Below w.heap.size w wr
set_option maxRecDepth 20000 in
set_option maxHeartbeats 1000000 in
theorem mapOfCounts (lo hi : Nat) (A : Option Addr) (n c : Nat) (xs : List Cnt) (w : World) (hx : Cnts lo hi w A n c xs) (hh : hi ≤ w.heap.size) (hw : ∀ x ∈ xs, wf x.fr ∧ wf x.to_) :
    Calls Try.prog 30 #[.slice A n c] w (MocPost xs w) := by
  have hc1 := hx.max_
  have hc2 := hx.cap_
  have HL := Lib.hid hx.len_
  have HH := Lib.hid hh
  have HW := Lib.hid hw
  have hmm := @run_makeMap Try.prog
  have HX0 : Hid (MoRel lo hi w (w.alloc (.map #[] 0)) A n c xs 0) := ⟨hx.below ((Below.refl _ _).alloc (Nat.le_refl _) _) (Nat.le_refl _), mapG_made _ _ _ _ w, (Below.refl _ _).alloc (Nat.le_refl _) _⟩
  clear hx hh hw
  go_enter Try.func30, Try.ntmps30
  go_wp2
  go_loopw [9] (fun i wr => ∃ k : Nat, k ≤ n ∧ i = .int .i64 k ∧ Hid (MoRel lo hi w wr A n c xs k)) (fun i _ => n - (intOf i).toNat)
  case atStart => exact ⟨0, Nat.zero_le _, rfl, HX0.out⟩
  case round =>
    obtain ⟨k, hk, rfl, hR⟩ := hrel
    clear HX0
    by_cases hlt : k < n
    · have HGT := Lib.hid (gOf_take (xs := xs) (k := k) (by rw [HL.out]; exact hlt))
      have HWK := Lib.hid (HW.out _ (cntAt_mem (xs := xs) (k := k) (by rw [HL.out]; exact hlt)))
      obtain ⟨b, off, rfl, _, _, hbz, c0, c1, c2, c3⟩ := hR.out.1.at_ hlt
      generalize cntAt xs k = x at *
      have hb1 : Below wr.heap.size wr (wr.alloc (.cells #[.int .i64 x.fr, .int .i64 x.to_, .int .i64 x.se, .int .i64 x.ba] 37)) := (Below.refl _ _).alloc (Nat.le_refl _) _
      have HM := Lib.hid (hR.out.2.1.below' hb1)
      have HC := Lib.hid (hR.out.1.below hb1 (Nat.le_refl _))
      have HB := Lib.hid (hR.out.2.2.trans (hb1.mono hR.out.2.2.size))
      obtain ⟨z0, z1, z2, z3⟩ := four_new wr (.int .i64 x.fr) (.int .i64 x.to_) (.int .i64 x.se) (.int .i64 x.ba) 37
      clear hR hb1
      go_upto_region 5 with (fail)
      clear c0 c1 c2 c3
      generalize wr.heap.size = sz at *
      generalize (wr.alloc (.cells #[.int .i64 x.fr, .int .i64 x.to_, .int .i64 x.se, .int .i64 x.ba] 37)) = w2 at *
      have HD : Hid (MapL w2.drew w.heap.size k (gOf (xs.take k)) ∧ Cnts lo hi w2.drew (some ⟨b, off, none⟩) n c xs ∧ Below w.heap.size w w2.drew) := ⟨HM.out, HC.out, below_dr1 HB.out⟩
      clear HM HC HB
      go_region_law (first
        | (go_simp; go_at_call 38; refine (linkOf x _).mono ?_; rintro e w1 ⟨rfl, hb⟩
           have y0 := Qc.hs_step hb z0
           have y1 := Qc.hs_step hb z1
           have y2 := Qc.hs_step hb z2
           have y3 := Qc.hs_step hb z3
           obtain ⟨l, hkey⟩ := keyL (p := (x.fr, x.to_)) HWK.out.1 HWK.out.2
           obtain ⟨w6, hrun0, hM6, hg6, hs6⟩ := (HD.out.1.below' hb).update keyedL mk2_inj Try.underlying54 hkey (x.se, x.ba)
           have hrun : (Instr.mapUpdate 54 (.map (some w.heap.size)) (.agg #[.int .i64 x.fr, .int .i64 x.to_]) (.agg #[.int .i64 x.se, .int .i64 x.ba])).run Try.prog w1 = .ok () w6 := hrun0
           have HB6 := Lib.hid ((HD.out.2.2.trans (hb.mono HD.out.2.2.size)).grown hg6 (Nat.le_trans HD.out.2.2.size hb.size) (fun q hq => by cases hq; exact Nat.le_refl _))
           have HC6 := Lib.hid ((HD.out.2.1.below hb (Nat.le_refl _)).grown hg6 (fun q hq => by cases hq; exact .inr HH.out))
           have HM6 := Lib.hid hM6
           clear hrun0 hM6 hg6 hs6))
      all_goals
        have HG : Hid (MoRel lo hi w w6 (some ⟨b, off, none⟩) n c xs (k + 1)) := ⟨HC6.out, by show MapL w6 w.heap.size (k + 1) (gOf (xs.take (k + 1))); rw [HGT.out]; exact HM6.out, HB6.out⟩
        clear HM6 HC6 HB6 HD
        go_wp2
        go_roundw
        case rel => exact ⟨k + 1, by omega, by go_num, HG.out⟩
        case measure => simp [intOf]; omega
    · obtain rfl : k = n := by omega
      have HF : Hid (gOf (xs.take k) = gOf xs) := by show gOf (xs.take k) = _; rw [List.take_of_length_le (by rw [HL.out]; exact Nat.le_refl _)]
      clear hlt
      go_wp2
      go_ret
      obtain ⟨_, h2, h3⟩ := hR.out
      rw [HF.out] at h2
      rw [← HL.out] at h2
      exact ⟨_, rfl, Nat.le_refl _, h2, h3⟩

end Im7
end Go.Proofs.Ytbhafchdcofceaa
