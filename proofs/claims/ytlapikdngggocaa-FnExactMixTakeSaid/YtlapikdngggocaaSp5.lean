/-
  Contracts of the model's chapter 5: keys of a path, valid packets.
-/
import Derived.Test.YtlapikdngggocaaSpa
import Derived.Test.YtlapikdngggocaaPl
import Derived.Deep.RegionLaw
namespace Go.Proofs.Ytlapikdngggocaa
open Go.RowKit
namespace Sp5
open Il Gm Mm Tm Lm Pm Sp2 Sp3 Sp4

/-- For a loop that looks at each number: each of the first k is good. -/
def allTo (P : Int → Bool) (xs : List Int) (k : Nat) : Prop := ∀ j, j < k → P (xs.getD j 0) = true
theorem allTo_zero (P : Int → Bool) (xs : List Int) : allTo P xs 0 := fun j h => absurd h (by omega)
theorem allTo_succ {P : Int → Bool} {xs : List Int} {k : Nat} (h : allTo P xs k) (hk : P (xs.getD k 0) = true) : allTo P xs (k + 1) := fun j hj => by
  by_cases e : j = k
  · subst e; exact hk
  · exact h j (by omega)
theorem all_of_to {P : Int → Bool} {xs : List Int} (h : allTo P xs xs.length) : xs.all P = true := by
  rw [List.all_eq_true]
  intro x hx
  obtain ⟨j, hj, e⟩ := List.getElem_of_mem hx
  have := h j hj
  rwa [List.getD_eq_getElem?_getD, List.getElem?_eq_getElem hj, Option.getD_some, e] at this
theorem all_bad {P : Int → Bool} {xs : List Int} {k : Nat} (hk : k < xs.length) (h : P (xs.getD k 0) = false) : xs.all P = false := by
  rw [List.all_eq_false]
  exact ⟨_, getD_mem hk, by rw [h]; decide⟩

theorem pubs_in {ps : List Int} (h : pubsOk ps = true) : ∀ p ∈ ps, inG p = true := by
  unfold pubsOk at h; simp at h; exact h.1
theorem pubs_len {ps : List Int} (h : pubsOk ps = true) : ps.length ≤ 3 := by
  unfold pubsOk at h; simp at h; exact h.2.2
def namesOk (xs : List Int) : Bool := xs.all inName



set_option maxRecDepth 20000 in
theorem l1Times (a b : Int) (w : World) (ha : inG a = true) (hb : inG b = true) :
    Calls Try.prog 41 #[.int .i64 a, .int .i64 b] w fun e w' => e = .returned (.int .i64 (mulG a b)) ∧ w = w' := by
  rw [mulG_in ha hb]
  obtain ⟨a1, a2⟩ := inG_iff.1 ha
  obtain ⟨b1, b2⟩ := inG_iff.1 hb
  have hm : 0 ≤ a * b ∧ a * b ≤ 992016 := ⟨Int.mul_nonneg (by omega) (by omega), by have := Int.mul_le_mul a2 b2 (by omega) (by omega); omega⟩
  obtain ⟨hm1, hm2⟩ := hm
  clear ha hb
  go_enter Try.func41, Try.ntmps41
  go_wp2
  go_ret
  exact ⟨rfl, rfl⟩

set_option maxRecDepth 20000 in
theorem l1Factor (a : Int) (w : World) (ha : inG a = true) :
    Calls Try.prog 63 #[.int .i64 a] w fun e w' => e = .returned (.int .i64 (facG a)) ∧ w = w' := by
  rw [facG_in ha]
  obtain ⟨a1, a2⟩ := inG_iff.1 ha
  clear ha
  go_enter Try.func63, Try.ntmps63
  go_wp2
  go_ret
  exact ⟨rfl, rfl⟩

/-- The secret behind k mixes. -/
def secTo : Int → List Int → Nat → Int
  | x, _, 0 => x
  | x, [], _ + 1 => x
  | x, p :: ps, k + 1 => secTo (mulG x (facG (mulG x p))) ps k
theorem keysF_snoc (ps : List Int) (x p : Int) : keysF x (ps ++ [p]) = keysF x ps ++ [mulG (secTo x ps ps.length) p] ∧ secTo x (ps ++ [p]) (ps.length + 1) = mulG (secTo x ps ps.length) (facG (mulG (secTo x ps ps.length) p)) := by
  induction ps generalizing x with
  | nil => exact ⟨rfl, rfl⟩
  | cons q ps ih =>
    obtain ⟨h1, h2⟩ := ih (mulG x (facG (mulG x q)))
    exact ⟨by simp [keysF, secTo, h1], by simp [secTo, h2]⟩
def secAt (x : Int) (ps : List Int) (k : Nat) : Int := secTo x (ps.take k) (ps.take k).length
theorem keys_step {x : Int} {ps : List Int} {k : Nat} (h : k < ps.length) : keysF x (ps.take (k + 1)) = keysF x (ps.take k) ++ [mulG (secAt x ps k) (ps.getD k 0)] ∧ secAt x ps (k + 1) = mulG (secAt x ps k) (facG (mulG (secAt x ps k) (ps.getD k 0))) := by
  unfold secAt
  rw [take_succ_getD h]
  have := keysF_snoc (ps.take k) x (ps.getD k 0)
  exact ⟨this.1, by simpa using this.2⟩
theorem secAt_in {x : Int} {ps : List Int} (hx : inG x = true) (hp : ∀ p ∈ ps, inG p = true) (k : Nat) (hk : k ≤ ps.length) : inG (secAt x ps k) = true := by
  induction k with
  | zero => exact hx
  | succ k ih =>
    rw [(keys_step (x := x) (ps := ps) (k := k) (by omega)).2]
    have h1 := ih (by omega)
    exact mulG_pos h1 (facG_pos (mulG_pos h1 (hp _ (getD_mem (by omega)))))


def pathOk (x : Int) (ps : List Int) : Bool := inG x && pubsOk ps
def pathF (x : Int) (ps : List Int) : List Int := bif pathOk x ps then keysF x ps else []


set_option maxRecDepth 20000 in
theorem PacketValid (lo hi lo2 hi2 : Nat) (A B : Option Addr) (n c m d : Nat) (el tag : Int) (hd bd : List Int) (w : World) (hh : Ints lo hi w A n c hd) (hb : Ints lo2 hi2 w B m d bd) :
    Calls Try.prog 18 #[.agg #[.int .i64 el, .slice A n c, .int .i64 tag, .slice B m d]] w (BoolB (pktOk ⟨el, hd, tag, bd⟩) w) := by
  have hbA : Below w.heap.size w (w.alloc (.cells #[.int .i64 el, .slice A n c, .int .i64 tag, .slice B m d] 36)) := (Below.refl _ _).alloc (Nat.le_refl _) _
  have HH := Lib.hid (hh.below hbA (Nat.le_refl _))
  have HB := Lib.hid (hb.below hbA (Nat.le_refl _))
  have L1 := Lib.hid hh.1
  have L2 := Lib.hid hb.1
  have BB := Lib.hid hbA
  clear hh hb hbA
  cases h1 : inG el
  · have hv : pktOk ⟨el, hd, tag, bd⟩ = false := by simp [pktOk, h1]
    rw [hv]
    clear hv
    go_enter Try.func18, Try.ntmps18
    go_wp2_with fail
    ((with_reducible refine (l1Is el _).mono ?_); rintro e w' ⟨rfl, rfl⟩)
    rw [h1]
    clear h1
    go_wp2
    go_ret
    exact ⟨rfl, BB.out⟩
  · skip
    cases h2 : okL hd
    · have hv : pktOk ⟨el, hd, tag, bd⟩ = false := by simp [pktOk, h1, h2]
      rw [hv]
      clear hv
      go_enter Try.func18, Try.ntmps18
      go_wp2_with fail
      ((with_reducible refine (l1Is el _).mono ?_); rintro e w' ⟨rfl, rfl⟩)
      rw [h1]
      clear h1
      go_wp2_with fail
      ((with_reducible refine (l2List _ _ _ _ _ hd _ HH.out).mono ?_); rintro e w' ⟨rfl, rfl⟩)
      rw [h2]
      clear h2
      go_wp2
      go_ret
      exact ⟨rfl, BB.out⟩
    · skip
      by_cases h3 : n = 9
      · have h3b : ((n : Int) == 9) = true := by simp; omega
        cases h4 : inN tag
        · have hv : pktOk ⟨el, hd, tag, bd⟩ = false := by simp [pktOk, h1, h2, L1.out, h3, h4]
          rw [hv]
          clear hv h3
          go_enter Try.func18, Try.ntmps18
          go_wp2_with fail
          ((with_reducible refine (l1Is el _).mono ?_); rintro e w' ⟨rfl, rfl⟩)
          rw [h1]
          clear h1
          go_wp2_with fail
          ((with_reducible refine (l2List _ _ _ _ _ hd _ HH.out).mono ?_); rintro e w' ⟨rfl, rfl⟩)
          rw [h2]
          clear h2
          go_wp2_with fail
          ((with_reducible refine (l6In tag 0 990 _).mono ?_); rintro e w' ⟨rfl, rfl⟩)
          rw [(show decide (0 ≤ tag ∧ tag ≤ 990) = _ from h4)]
          clear h4
          go_wp2
          go_ret
          exact ⟨rfl, BB.out⟩
        · skip
          cases h5 : okL bd
          · have hv : pktOk ⟨el, hd, tag, bd⟩ = false := by simp [pktOk, h1, h2, L1.out, h3, h4, h5]
            rw [hv]
            clear hv h3
            go_enter Try.func18, Try.ntmps18
            go_wp2_with fail
            ((with_reducible refine (l1Is el _).mono ?_); rintro e w' ⟨rfl, rfl⟩)
            rw [h1]
            clear h1
            go_wp2_with fail
            ((with_reducible refine (l2List _ _ _ _ _ hd _ HH.out).mono ?_); rintro e w' ⟨rfl, rfl⟩)
            rw [h2]
            clear h2
            go_wp2_with fail
            ((with_reducible refine (l6In tag 0 990 _).mono ?_); rintro e w' ⟨rfl, rfl⟩)
            rw [(show decide (0 ≤ tag ∧ tag ≤ 990) = _ from h4)]
            clear h4
            go_wp2_with fail
            ((with_reducible refine (l2List _ _ _ _ _ bd _ HB.out).mono ?_); rintro e w' ⟨rfl, rfl⟩)
            rw [h5]
            clear h5
            go_wp2
            go_ret
            exact ⟨rfl, BB.out⟩
          · skip
            by_cases h6 : m = 6
            · have h6b : ((m : Int) == 6) = true := by simp; omega
              have hv : pktOk ⟨el, hd, tag, bd⟩ = true := by simp [pktOk, h1, h2, L1.out, h3, h4, h5, L2.out, h6]
              rw [hv]
              clear hv h3 h6
              go_enter Try.func18, Try.ntmps18
              go_wp2_with fail
              ((with_reducible refine (l1Is el _).mono ?_); rintro e w' ⟨rfl, rfl⟩)
              rw [h1]
              clear h1
              go_wp2_with fail
              ((with_reducible refine (l2List _ _ _ _ _ hd _ HH.out).mono ?_); rintro e w' ⟨rfl, rfl⟩)
              rw [h2]
              clear h2
              go_wp2_with fail
              ((with_reducible refine (l6In tag 0 990 _).mono ?_); rintro e w' ⟨rfl, rfl⟩)
              rw [(show decide (0 ≤ tag ∧ tag ≤ 990) = _ from h4)]
              clear h4
              go_wp2_with fail
              ((with_reducible refine (l2List _ _ _ _ _ bd _ HB.out).mono ?_); rintro e w' ⟨rfl, rfl⟩)
              rw [h5]
              clear h5
              go_wp2
              go_ret
              exact ⟨rfl, BB.out⟩
            · have h6b : ((m : Int) == 6) = false := by simp; omega
              have hv : pktOk ⟨el, hd, tag, bd⟩ = false := by simp [pktOk, h1, h2, h4, h5, L2.out, h6]
              rw [hv]
              clear hv h3 h6
              go_enter Try.func18, Try.ntmps18
              go_wp2_with fail
              ((with_reducible refine (l1Is el _).mono ?_); rintro e w' ⟨rfl, rfl⟩)
              rw [h1]
              clear h1
              go_wp2_with fail
              ((with_reducible refine (l2List _ _ _ _ _ hd _ HH.out).mono ?_); rintro e w' ⟨rfl, rfl⟩)
              rw [h2]
              clear h2
              go_wp2_with fail
              ((with_reducible refine (l6In tag 0 990 _).mono ?_); rintro e w' ⟨rfl, rfl⟩)
              rw [(show decide (0 ≤ tag ∧ tag ≤ 990) = _ from h4)]
              clear h4
              go_wp2_with fail
              ((with_reducible refine (l2List _ _ _ _ _ bd _ HB.out).mono ?_); rintro e w' ⟨rfl, rfl⟩)
              rw [h5]
              clear h5
              go_wp2
              go_ret
              exact ⟨rfl, BB.out⟩
      · have h3b : ((n : Int) == 9) = false := by simp; omega
        have hv : pktOk ⟨el, hd, tag, bd⟩ = false := by simp [pktOk, h1, h2, L1.out, h3]
        rw [hv]
        clear hv h3
        go_enter Try.func18, Try.ntmps18
        go_wp2_with fail
        ((with_reducible refine (l1Is el _).mono ?_); rintro e w' ⟨rfl, rfl⟩)
        rw [h1]
        clear h1
        go_wp2_with fail
        ((with_reducible refine (l2List _ _ _ _ _ hd _ HH.out).mono ?_); rintro e w' ⟨rfl, rfl⟩)
        rw [h2]
        clear h2
        go_wp2
        go_ret
        exact ⟨rfl, BB.out⟩

set_option maxRecDepth 20000 in
theorem l2AtI (key z : Int) (i : Nat) (w : World) (hz : z = (i : Int)) (h1 : 1 ≤ key) (h2 : key ≤ 996) (hi : i ≤ 1000) :
    Calls Try.prog 69 #[.int .i64 key, .int .i64 z] w fun e w' => e = .returned (.int .i64 (at2 key i)) ∧ w = w' := by
  subst hz; exact l2At key i w h1 h2 hi

/-- What the outer loop of the filler holds. -/
def FillRel (w wr : World) (ks : List Int) (A1 : Option Addr) (c1 m k : Nat) : Prop :=
  Own w.heap.size wr.heap.size wr A1 m c1 (fillAt ks k) ∧ Below w.heap.size w wr
/-- .. the inner one: what next holds, and what has been gathered. -/
def FillIn (w wb wr : World) (key : Int) (F : List Int) (A2 : Option Addr) (c2 m2 : Nat) (v : Value) (q : Nat) : Prop :=
  Ints w.heap.size wb.heap.size wr A2 m2 c2 (F ++ [0, 0, 0]) ∧ Il.Acc wb wr v (fillTo F key q) ∧ Below w.heap.size w wr


def kAt (ks : List Int) (s : Nat) : Int := ks.getD s 0
def hAt (r : Int) (f ks ns : List Int) (s : Nat) : List Int := hdr r f (ks.drop s) (ns.drop s)
def hdTag (r : Int) (f ks ns : List Int) : Int := tagL (ks.headD 0) (hdr r f ks ns)
def HdrPost (H : List Int) (t : Int) (w : World) (e : Ending) (w' : World) : Prop :=
  ∃ A c, e = .returned (.tuple #[.slice A H.length c, .int .i64 t]) ∧ Own w.heap.size w'.heap.size w' A H.length c H ∧ Below w.heap.size w w'
/-- What the second loop of l5Header holds: the header for mix s. -/
def HdrRel (w wr : World) (H : List Int) (C : Option Addr) (h9 e9 : Nat) : Prop := Own w.heap.size wr.heap.size wr C h9 e9 H ∧ Below w.heap.size w wr
def LastRel (w w1 wr : World) (f : List Int) (AF : Option Addr) (fl cf : Nat) (v : Value) (r : Int) (j : Nat) : Prop :=
  Il.Acc w1 wr v ([1, r, 0] ++ List.replicate j 0) ∧ Ints w.heap.size w1.heap.size wr AF fl cf f ∧ Below w.heap.size w wr


end Sp5
end Go.Proofs.Ytlapikdngggocaa
