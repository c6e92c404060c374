/-
  Contracts of the laws' helpers on directories: the sum of the weights, the place of a name; a directory in a variable.
-/
import Derived.Test.YtfjggpdinfidcaaSp9d
import Derived.Test.YtfjggpdinfidcaaEd
import Derived.Test.YtfjggpdinfidcaaHlp
namespace Go.Proofs.Ytfjggpdinfidcaa
open Go.RowKit
namespace H9
open Il Sl Ec Dm Sp9 Gm

/-- Where a name stands in a directory; -1 where it does not. -/
def entR (es : List En) (x : Int) : Nat → Nat → Int
  | 0, _ => -1
  | f + 1, k => bif (enAt es k).nm == x then (k : Int) else entR es x f (k + 1)
def entL (es : List En) (x : Int) : Int := entR es x es.length 0
theorem entR_here {es : List En} {x : Int} {n j : Nat} (hj : j < n) (h : (enAt es j).nm = x) : entR es x (n - j) j = (j : Int) := by
  obtain ⟨r, hr⟩ : ∃ r, n - j = r + 1 := ⟨n - j - 1, by omega⟩
  rw [hr, entR, h, beq_self_eq_true, cond_true]
theorem entR_on {es : List En} {x : Int} {n j : Nat} (hj : j < n) (h : ¬ (enAt es j).nm = x) : entR es x (n - j) j = entR es x (n - (j + 1)) (j + 1) := by
  obtain ⟨r, hr⟩ : ∃ r, n - j = r + 1 := ⟨n - j - 1, by omega⟩
  have hb : ((enAt es j).nm == x) = false := by simpa using h
  rw [hr, entR, hb, cond_false, show n - (j + 1) = r by omega]
theorem ent_at {es : List En} (h : esOk es = true) {j : Nat} (hj : j < es.length) : entL es (enAt es j).nm = (j : Int) := by
  have key : ∀ f k, k ≤ j → j < k + f → entR es (enAt es j).nm f k = (j : Int) := fun f => by
    induction f with
    | zero => intro k h1 h2; omega
    | succ f ih =>
      intro k h1 h2
      rw [entR]
      by_cases e : k = j
      · subst e; rw [beq_self_eq_true, cond_true]
      · have := ok_lt h (show k < j by omega) hj
        have hb : ((enAt es k).nm == (enAt es j).nm) = false := by rw [beq_eq_false_iff_ne]; omega
        rw [hb, cond_false]
        exact ih (k + 1) (by omega) (by omega)
  exact key es.length 0 (Nat.zero_le _) (by omega)
/-- A directory in a variable, of this call's own. -/
def Vd (lo : Nat) (w : World) (b : Nat) (ep : Int) (A : Option Addr) (k : Nat) (es : List En) : Prop := DBox w b ep A es.length k ∧ lo ≤ b ∧ Ens lo w.heap.size w A es.length k es
section
variable {lo b : Nat} {w w' : World} {ep : Int} {A : Option Addr} {k : Nat} {es : List En}
theorem Vd.st (h : Vd lo w b ep A k es) : Ens lo w.heap.size w A es.length k es := h.2.2
theorem Vd.below {B : Nat} (h : Vd lo w b ep A k es) (hb : Below B w w') (hB : w.heap.size ≤ B) : Vd lo w' b ep A k es := ⟨h.1.below hb hB, h.2.1, (h.2.2.below hb hB).mono (Nat.le_refl _) hb.size⟩
theorem Vd.drewN (h : Vd lo w b ep A k es) (d : Nat) : Vd lo (w.drewN d) b ep A k es := h
end
theorem vd_new {lo lo' hi : Nat} {w : World} {ep : Int} {A : Option Addr} {k : Nat} {es : List En} (hx : Ens lo hi w A es.length k es) (hl : lo' ≤ lo) (h2 : lo' ≤ w.heap.size) : Vd lo' (w.alloc (.cells #[.int .i64 ep, .slice A es.length k] 25)) w.heap.size ep A k es := by
  have hb : Below w.heap.size w (w.alloc (.cells #[.int .i64 ep, .slice A es.length k] 25)) := (Below.refl _ _).alloc (Nat.le_refl _) _
  exact ⟨heap_alloc_new _ _, h2, ((hx.top hl).below hb (Nat.le_refl _)).mono (Nat.le_refl _) hb.size⟩
theorem hasNil (k : Nat) : has [] k = false := rfl
set_option maxRecDepth 20000 in
set_option maxHeartbeats 2000000 in
theorem sumOf (ep : Int) (es : List En) (A : Option Addr) (n k lo hi : Nat) (w : World) (hx : Ens lo hi w A n k es) (hw : WB es) :
    Calls Try.prog 28 #[.agg #[.int .i64 ep, .slice A n k]] w (IntB (wtL [] es) w) := by
  have HW := Lib.hid hw
  have HL := Lib.hid hx.len_
  have hn : n ≤ 100 := by rw [← hx.len_]; exact hw.1
  have HR0 := Lib.hid (drel_new hx ep)
  clear hx hw
  go_enter Try.func28, Try.ntmps28
  go_wp2
  go_loopw [3, 4] (fun t i wr => ∃ j : Nat, j ≤ n ∧ i = .int .i64 j ∧ t = .int .i64 (wtTo [] es j) ∧ Hid (DRel w.heap.size lo hi w wr A n k ep es)) (fun _ i _ => n - (intOf i).toNat)
  case atStart => exact ⟨0, Nat.zero_le _, rfl, rfl, HR0.out⟩
  case round =>
    obtain ⟨j, hj, rfl, rfl, hR⟩ := hrel
    clear HR0
    obtain ⟨z0, z1, zf⟩ := hR.out.box.cells
    obtain ⟨hb1, hb2⟩ := wtTo_bd HW.out [] j
    by_cases hlt : j < n
    · obtain ⟨b, off, rfl, _, _, hbz, c0, c1, c2⟩ := hR.out.ens.at_ hlt
      have HN : Hid (wtTo [] es (j + 1) = wtTo [] es j + (enAt es j).wt) := by show _ = _; rw [wtTo_next, wtI_no (hasNil j)]
      obtain ⟨q1, q2⟩ := HW.out.2 j
      have HR := Lib.hid hR.out
      clear hR
      generalize (enAt es j).wt = x at *
      generalize wtTo [] es j = t at *
      go_wp2
      go_roundw
      case rel => exact ⟨j + 1, by omega, by go_num, by rw [HN.out], HR.out⟩
      case measure => simp [intOf]; omega
    · obtain rfl : j = n := by omega
      have hfin : wtTo [] es j = wtL [] es := by rw [← HL.out]; rfl
      rw [hfin]
      have HB := Lib.hid hR.out.bel
      clear hfin hb1 hb2 hR
      go_wp2
      go_ret
      exact ⟨rfl, HB.out⟩
set_option maxRecDepth 20000 in
set_option maxHeartbeats 2000000 in
theorem entryOf (ep x : Int) (es : List En) (A : Option Addr) (n k lo hi : Nat) (w : World) (hx : Ens lo hi w A n k es) :
    Calls Try.prog 33 #[.agg #[.int .i64 ep, .slice A n k], .int .i64 x] w (IntB (entL es x) w) := by
  have HL := Lib.hid hx.len_
  have hk1 := hx.max_
  have hk2 := hx.cap_
  have HR0 := Lib.hid (drel_new hx ep)
  have HE : Hid (entR es x (n - 0) 0 = entL es x) := by show _ = _; rw [← HL.out]; rfl
  clear hx
  go_enter Try.func33, Try.ntmps33
  go_wp2
  go_loopw [5] (fun i wr => ∃ j : Nat, j ≤ n ∧ i = .int .i64 j ∧ Hid (entR es x (n - j) j = entL es x) ∧ Hid (DRel w.heap.size lo hi w wr A n k ep es)) (fun i _ => n - (intOf i).toNat)
  case atStart => exact ⟨0, Nat.zero_le _, rfl, HE.out, HR0.out⟩
  case round =>
    obtain ⟨j, hj, rfl, hT, hR⟩ := hrel
    clear HR0 HE
    obtain ⟨z0, z1, zf⟩ := hR.out.box.cells
    by_cases hlt : j < n
    · obtain ⟨b, off, rfl, _, _, hbz, c0, c1, c2⟩ := hR.out.ens.at_ hlt
      have HR := Lib.hid hR.out
      clear hR
      by_cases he : (enAt es j).nm = x
      · have HV : Hid ((j : Int) = entL es x) := by show _ = _; rw [← hT.out, entR_here hlt he]
        have d1 : ((enAt es j).nm == x) = true := by simpa using he
        clear hT he
        generalize (enAt es j).nm = y at *
        go_wp2
        go_ret
        rw [← HV.out]
        exact ⟨rfl, HR.out.bel⟩
      · have HN : Hid (entR es x (n - (j + 1)) (j + 1) = entL es x) := by show _ = _; rw [← hT.out, entR_on hlt he]
        have d1 : ((enAt es j).nm == x) = false := by simpa using he
        clear hT he
        generalize (enAt es j).nm = y at *
        go_wp2
        go_roundw
        case rel => exact ⟨j + 1, by omega, by go_num, HN.out, HR.out⟩
        case measure => simp [intOf]; omega
    · obtain rfl : j = n := by omega
      have HV : Hid (-1 = entL es x) := by show _ = _; rw [← hT.out, Nat.sub_self]; rfl
      have HB := Lib.hid hR.out.bel
      clear hT hR
      go_wp2
      go_ret
      rw [← HV.out]
      exact ⟨rfl, HB.out⟩

end H9
end Go.Proofs.Ytfjggpdinfidcaa
