/-
  Laws of chapter 12 on suspects, by the contracts of the functions that they call: each returns true and writes nothing that was there.
-/
import Derived.Test.YtbhafchdcofceaaDr7b
import Derived.Test.YtbhafchdcofceaaIla
import Derived.Test.YtbhafchdcofceaaIm7d
import Derived.Test.YtbhafchdcofceaaSp7b
import Derived.Test.YtbhafchdcofceaaSp7c
import Derived.Test.YtbhafchdcofceaaSp7e
import Derived.BigQuiet
import Derived.Laws.StructEq
namespace Go.Proofs.Ytbhafchdcofceaa
open Go.RowKit
namespace Law7
open Il Sl Lc Rd LawB Im7 Hc

/-- Drawn counts and two lists made of them. -/
def Qr (w0 wr : World) (h1 h2 h3 : Nat) (A1 A2 A3 : Option Addr) (c1 c2 c3 : Nat) (xs ys : List Cnt) : Prop :=
  Cnts w0.heap.size h1 wr A1 xs.length c1 xs ∧ Cnts w0.heap.size h2 wr A2 ys.length c2 ys ∧ Cnts w0.heap.size h3 wr A3 ys.length c3 ys ∧ (h1 ≤ wr.heap.size ∧ h2 ≤ wr.heap.size ∧ h3 ≤ wr.heap.size) ∧ Below w0.heap.size w0 wr
theorem Qr.below {w0 wr w' : World} {h1 h2 h3 : Nat} {A1 A2 A3 : Option Addr} {c1 c2 c3 : Nat} {xs ys : List Cnt} (h : Qr w0 wr h1 h2 h3 A1 A2 A3 c1 c2 c3 xs ys) (hb : Below wr.heap.size wr w') : Qr w0 w' h1 h2 h3 A1 A2 A3 c1 c2 c3 xs ys :=
  ⟨h.1.below hb (Nat.le_refl _), h.2.1.below hb (Nat.le_refl _), h.2.2.1.below hb (Nat.le_refl _), ⟨Nat.le_trans h.2.2.2.1.1 hb.size, Nat.le_trans h.2.2.2.1.2.1 hb.size, Nat.le_trans h.2.2.2.1.2.2 hb.size⟩, h.2.2.2.2.trans (hb.mono h.2.2.2.2.size)⟩
theorem Qr.xs {w0 wr : World} {h1 h2 h3 : Nat} {A1 A2 A3 : Option Addr} {c1 c2 c3 : Nat} {xs ys : List Cnt} (h : Qr w0 wr h1 h2 h3 A1 A2 A3 c1 c2 c3 xs ys) : Cnts w0.heap.size h1 wr A1 xs.length c1 xs := h.1
theorem Qr.ys {w0 wr : World} {h1 h2 h3 : Nat} {A1 A2 A3 : Option Addr} {c1 c2 c3 : Nat} {xs ys : List Cnt} (h : Qr w0 wr h1 h2 h3 A1 A2 A3 c1 c2 c3 xs ys) : Cnts w0.heap.size h2 wr A2 ys.length c2 ys := h.2.1
theorem Qr.zs {w0 wr : World} {h1 h2 h3 : Nat} {A1 A2 A3 : Option Addr} {c1 c2 c3 : Nat} {xs ys : List Cnt} (h : Qr w0 wr h1 h2 h3 A1 A2 A3 c1 c2 c3 xs ys) : Cnts w0.heap.size h3 wr A3 ys.length c3 ys := h.2.2.1
theorem Qr.sz {w0 wr : World} {h1 h2 h3 : Nat} {A1 A2 A3 : Option Addr} {c1 c2 c3 : Nat} {xs ys : List Cnt} (h : Qr w0 wr h1 h2 h3 A1 A2 A3 c1 c2 c3 xs ys) : h1 ≤ wr.heap.size := h.2.2.2.1.1
theorem Qr.bl {w0 wr : World} {h1 h2 h3 : Nat} {A1 A2 A3 : Option Addr} {c1 c2 c3 : Nat} {xs ys : List Cnt} (h : Qr w0 wr h1 h2 h3 A1 A2 A3 c1 c2 c3 xs ys) : Below w0.heap.size w0 wr := h.2.2.2.2
theorem Qr.dn {w0 wr : World} {h1 h2 h3 : Nat} {A1 A2 A3 : Option Addr} {c1 c2 c3 : Nat} {xs ys : List Cnt} (h : Qr w0 wr h1 h2 h3 A1 A2 A3 c1 c2 c3 xs ys) (d : Nat) : Qr w0 (wr.drewN d) h1 h2 h3 A1 A2 A3 c1 c2 c3 xs ys :=
  ⟨h.1, h.2.1, h.2.2.1, h.2.2.2.1, h.2.2.2.2.trans ⟨rfl, rfl, rfl, Nat.le_refl _, fun _ _ => rfl⟩⟩
theorem suspL_yes {xs : List Cnt} {num den : Int} (h : loopsOk xs = true) (hp : partOk num den = true) : suspL xs num den = xs.filter (suspC num den) := by
  unfold suspL
  rw [h, hp]
  rfl
theorem filt_at {xs : List Cnt} {p : Cnt → Bool} {k : Nat} (hk : k < xs.length) (hp : p (cntAt xs k) = true) : ((xs.take k).filter p).length < (xs.filter p).length ∧ cntAt (xs.filter p) ((xs.take k).filter p).length = cntAt xs k ∧ ((xs.take (k + 1)).filter p).length = ((xs.take k).filter p).length + 1 := by
  have h1 := filter_take hk p
  rw [hp] at h1
  have h2 : xs.filter p = (xs.take k).filter p ++ (cntAt xs k :: (xs.drop (k + 1)).filter p) := by
    have e : xs = xs.take (k + 1) ++ xs.drop (k + 1) := (List.take_append_drop _ _).symm
    conv => lhs; rw [e]
    rw [List.filter_append, h1]
    simp
  refine ⟨?_, ?_, ?_⟩
  · rw [h2, List.length_append, List.length_cons]; omega
  · unfold cntAt
    rw [h2, List.getD_eq_getElem?_getD, List.getElem?_append_right (Nat.le_refl _), Nat.sub_self]
    rfl
  · rw [h1, List.length_append]; rfl
theorem filt_no {xs : List Cnt} {p : Cnt → Bool} {k : Nat} (hk : k < xs.length) (hp : p (cntAt xs k) = false) : ((xs.take (k + 1)).filter p).length = ((xs.take k).filter p).length := by
  have h1 := filter_take hk p
  rw [hp] at h1
  rw [h1, List.length_append]; rfl
/-- Who is a suspect at a part is one at the whole. -/
theorem susp_more {xs : List Cnt} {num den : Int} {c : Cnt} (h : c ∈ suspL xs num den) : c ∈ suspL xs 1 1 := by
  unfold suspL at h
  cases h1 : loopsOk xs
  · rw [h1] at h; simp at h
  · cases h2 : partOk num den
    · rw [h1, h2] at h; simp at h
    · rw [h1, h2] at h
      have h3 : c ∈ xs.filter (suspC num den) := h
      rw [List.mem_filter] at h3
      rw [suspL_yes h1 (by decide), List.mem_filter]
      refine ⟨h3.1, ?_⟩
      have h4 := okC_iff.1 (ok_at h1 h3.1)
      have h5 := partOk_iff.1 h2
      have h6 : c.ba * den < num * c.se := by have := h3.2; unfold suspC at this; simpa using this
      unfold suspC
      rw [decide_eq_true_eq]
      rcases Int.lt_or_le c.ba c.se with h7 | h7
      · omega
      · exfalso
        have e : c.ba = c.se := by omega
        rw [e] at h6
        have h8 := Int.mul_le_mul_of_nonneg_right h5.2.2 (show 0 ≤ c.se by omega)
        rw [Int.mul_comm den c.se] at h8
        omega

end Law7
end Go.Proofs.Ytbhafchdcofceaa
