/-
  Plain arithmetic of peeling: what is passed on is a packet; its tag was right. Nothing of any program.
-/
import Derived.Test.YtnjcpbkpcmemeacPo
namespace Go.Proofs.Ytnjcpbkpcmemeac.Po
open Gm Mm Tm Lm Pm

/-- What a mix passes on is a packet; its parts. -/
theorem peel_valid {x : Int} {p : Pkt} (h : peelOk x p = true) : pktOk (peelF x p).pk = true ∧ (peelF x p).pk.el = mulG p.el (facG (mulG x p.el)) ∧ (peelF x p).pk.bd = offF p.bd (mulG x p.el) := by
  obtain ⟨o1, o2, o3, o4, o5⟩ := peelOk_iff.1 h
  obtain ⟨u1, u2, u3, u4, u5, u6⟩ := pktOk_iff.1 o2
  have hk : inG (mulG x p.el) = true := mulG_pos o1 u1
  have hok : okL (plainF p.hd (mulG x p.el)) = true := offL_ok _ (by simp [u3])
  rw [peelF_yes h]
  refine ⟨pktOk_iff.2 ⟨mulG_pos u1 (facG_pos hk), ?_, ?_, ?_, ?_, ?_⟩, rfl, (offF_yes u5 hk).symm⟩
  · refine okL_iff.2 ⟨fun y hy => (okL_iff.1 hok).1 y (List.mem_of_mem_drop hy), ?_⟩
    show ((plainF p.hd (mulG x p.el)).drop 3).length ≤ 24
    rw [List.length_drop, plainF_len _ u3]
    omega
  · show ((plainF p.hd (mulG x p.el)).drop 3).length = 9
    rw [List.length_drop, plainF_len _ u3]
  · exact inN_iff.2 (okL_at hok (k := 2) (by rw [plainF_len _ u3]; omega))
  · exact offL_ok _ (okL_iff.1 u5).2
  · show (offL p.bd _).length = 6
    rw [offL_len, u6]
/-- A packet that is peeled has the right tag. -/
theorem peel_tag {x : Int} {p : Pkt} (h : peelOk x p = true) : tagC (mulG x p.el) p.hd p.tag = true := by
  obtain ⟨o1, o2, o3, o4, o5⟩ := peelOk_iff.1 h
  obtain ⟨u1, u2, u3, u4, u5, u6⟩ := pktOk_iff.1 o2
  exact tagC_iff.2 ⟨(inN_iff.1 u4).1, by rw [tagF_yes (mulG_pos o1 u1) u2]; exact o3⟩

/-- What a layer tells: the mask off the header alone shows it. -/
theorem peel_info {x : Int} {p : Pkt} (h : peelOk x p = true) : (offF p.hd (mulG x p.el)).length = 9 ∧ (offF p.hd (mulG x p.el)).getD 0 0 = (peelF x p).kind ∧ (offF p.hd (mulG x p.el)).getD 1 0 = (peelF x p).next ∧ (offF p.hd (mulG x p.el)).getD 2 0 = (peelF x p).pk.tag ∧
    (offF p.hd (mulG x p.el)).drop 3 = (peelF x p).pk.hd.take 6 ∧ (peelF x p).pk.hd.length = 9 := by
  obtain ⟨o1, o2, o3, o4, o5⟩ := peelOk_iff.1 h
  obtain ⟨u1, u2, u3, u4, u5, u6⟩ := pktOk_iff.1 o2
  have hk : inG (mulG x p.el) = true := mulG_pos o1 u1
  have hl := plainF_len (mulG x p.el) u3
  have e : offL p.hd (mulG x p.el) = (plainF p.hd (mulG x p.el)).take 9 := by
    apply ext_getD
    · rw [offL_len, u3, List.length_take, hl]
      rfl
    · intro j hj
      have hj9 : j < 9 := by rw [offL_len, u3] at hj; exact hj
      rw [getD_take hj9, getD_off _ _ (by omega)]
      unfold plainF
      rw [getD_off _ _ (by simp [u3]; omega), getD_left (by omega)]
  rw [offF_yes u2 hk, peelF_yes h, e]
  refine ⟨by rw [List.length_take, hl]; rfl, getD_take (by omega), getD_take (by omega), getD_take (by omega), ?_, ?_⟩
  · show ((plainF p.hd (mulG x p.el)).take 9).drop 3 = ((plainF p.hd (mulG x p.el)).drop 3).take 6
    rw [List.drop_take]
  · show ((plainF p.hd (mulG x p.el)).drop 3).length = 9
    rw [List.length_drop, hl]

/-- A changed number of the header: the tag is not right. -/
theorem peel_hd {x : Int} {p : Pkt} {k : Nat} {y : Int} (h : peelOk x p = true) (hk : k < p.hd.length) (hy : 0 ≤ y ∧ y ≤ 990) (hne : y ≠ p.hd.getD k 0) : peelOk x ⟨p.el, p.hd.set k y, p.tag, p.bd⟩ = false := by
  obtain ⟨o1, o2, o3, o4, o5⟩ := peelOk_iff.1 h
  obtain ⟨u1, u2, u3, u4, u5, u6⟩ := pktOk_iff.1 o2
  cases hq : peelOk x ⟨p.el, p.hd.set k y, p.tag, p.bd⟩
  · rfl
  · obtain ⟨_, _, v3, _, _⟩ := peelOk_iff.1 hq
    exact absurd (show tagL (mulG x p.el) (p.hd.set k y) = tagL (mulG x p.el) p.hd from v3.trans o3.symm) (tagL_set hk u2 hy hne)
/-- A changed tag is not right. -/
theorem peel_tg {x : Int} {p : Pkt} {y : Int} (h : peelOk x p = true) (hne : y ≠ p.tag) : peelOk x ⟨p.el, p.hd, y, p.bd⟩ = false := by
  obtain ⟨o1, o2, o3, o4, o5⟩ := peelOk_iff.1 h
  cases hq : peelOk x ⟨p.el, p.hd, y, p.bd⟩
  · rfl
  · obtain ⟨_, _, v3, _, _⟩ := peelOk_iff.1 hq
    exact absurd (show y = p.tag from v3.symm.trans o3) hne
/-- A changed number of the body: peeled as before, one number of the body changed. -/
theorem peel_bd {x : Int} {p : Pkt} {k : Nat} {y : Int} (h : peelOk x p = true) (hy : 0 ≤ y ∧ y ≤ 990) : peelOk x ⟨p.el, p.hd, p.tag, p.bd.set k y⟩ = true ∧
    peelF x ⟨p.el, p.hd, p.tag, p.bd.set k y⟩ = ⟨(peelF x p).kind, (peelF x p).next, ⟨(peelF x p).pk.el, (peelF x p).pk.hd, (peelF x p).pk.tag, offL (p.bd.set k y) (mulG x p.el)⟩⟩ := by
  obtain ⟨o1, o2, o3, o4, o5⟩ := peelOk_iff.1 h
  obtain ⟨u1, u2, u3, u4, u5, u6⟩ := pktOk_iff.1 o2
  have hq : peelOk x ⟨p.el, p.hd, p.tag, p.bd.set k y⟩ = true := peelOk_iff.2 ⟨o1, pktOk_iff.2 ⟨u1, u2, u3, u4, set_ok u5 hy, by rw [List.length_set]; exact u6⟩, o3, o4, o5⟩
  refine ⟨hq, ?_⟩
  rw [peelF_yes h, peelF_yes hq]
  rfl
/-- Where two bodies differ, and nowhere else, what is below the mask differs. -/
theorem off_set {xs : List Int} {key : Int} {k j : Nat} {y : Int} (hx : okL xs = true) (hj : j < xs.length) (hk : k < xs.length) (hy : 0 ≤ y ∧ y ≤ 990) (hne : y ≠ xs.getD k 0) :
    ((offL (xs.set k y) key).getD j 0 ≠ (offL xs key).getD j 0) ↔ j = k := by
  rw [getD_off _ _ (by rw [List.length_set]; exact hj), getD_off _ _ hj]
  by_cases e : j = k
  · subst e
    have h1 : (xs.set j y).getD j 0 = y := by simp [List.getD_eq_getElem?_getD, hj]
    rw [h1]
    have h2 := okL_at hx hj
    have h3 := at2_bd key j
    constructor
    · intro _; rfl
    · intro _ h
      apply hne
      omega
  · have h1 : (xs.set k y).getD j 0 = xs.getD j 0 := by simp [List.getD_eq_getElem?_getD, Ne.symm e]
    rw [h1]
    simp [e]

end Go.Proofs.Ytnjcpbkpcmemeac.Po
