/-
  Plain arithmetic of packets, more: packets that are made are valid; what changes and what does not. Nothing of any program.
-/
import Derived.Test.YtnjcpbkpcmemeacPm
namespace Go.Proofs.Ytnjcpbkpcmemeac.Po
open Gm Mm Tm Lm Pm

theorem keys_cons {x : Int} {ps : List Int} (h : pubsOk ps = true) : ∃ k ks, keysF x ps = k :: ks ∧ ks.length ≤ 2 := by
  unfold pubsOk at h
  simp at h
  match ps, h with
  | [], h => simp at h
  | p :: ps, h => exact ⟨_, _, rfl, by rw [keysF_len]; simp at h; omega⟩
theorem fill_le {x : Int} {ps : List Int} (h : pubsOk ps = true) : (fillF (keysF x ps)).length ≤ 6 := by
  obtain ⟨k, ks, e, hl⟩ := keys_cons (x := x) h
  rw [fillF_len, e]; simp; omega
/-- A packet that is made is valid. -/
theorem make_valid {x r : Int} {ps ns ls : List Int} (h : makeOk x ps ns r ls = true) : pktOk (makeF x ps ns r ls) = true ∧ (makeF x ps ns r ls).el = mulG x 5 := by
  obtain ⟨q1, q2, q3, q4, q5, q6⟩ := makeOk_iff.1 h
  rw [makeF_yes h]
  refine ⟨pktOk_iff.2 ⟨mulG_pos q2 (by decide), ?_, ?_, ?_, ?_, ?_⟩, rfl⟩
  · obtain ⟨k, ks, e, _⟩ := keys_cons (x := x) q3
    show okL (hdr r (fillF (keysF x ps)) (keysF x ps) ns) = true
    have := hdr_ok r (fillF (keysF x ps)) (fill_le q3) (fillF_in _) k ks ns
    rw [e] at this ⊢
    exact this
  · obtain ⟨k, ks, e, _⟩ := keys_cons (x := x) q3
    show (hdr r (fillF (keysF x ps)) (keysF x ps) ns).length = 9
    have := hdr_len r (fillF (keysF x ps)) (fill_le q3) k ks ns
    rw [e] at this ⊢
    exact this
  · exact inN_iff.2 (tagL_bd _ _)
  · exact body_ok _ _ (packL_ok q1)
  · show (bodyF (packL ls) _).length = 6
    rw [body_len, packL_len (packOk_iff.1 q1).2]

/-- The letter does not change the header. -/
theorem letter_free {x r : Int} {ps ns ls ms : List Int} (h : makeOk x ps ns r ls = true) (hm : packOk ms = true) : makeOk x ps ns r ms = true ∧ (makeF x ps ns r ms).el = (makeF x ps ns r ls).el ∧ (makeF x ps ns r ms).tag = (makeF x ps ns r ls).tag ∧ (makeF x ps ns r ms).hd = (makeF x ps ns r ls).hd := by
  obtain ⟨q1, q2, q3, q4, q5, q6⟩ := makeOk_iff.1 h
  have h2 : makeOk x ps ns r ms = true := makeOk_iff.2 ⟨hm, q2, q3, q4, q5, q6⟩
  refine ⟨h2, ?_⟩
  rw [makeF_yes h, makeF_yes h2]
  exact ⟨rfl, rfl, rfl⟩
theorem pack_one {v : Int} (h : 0 ≤ v ∧ v ≤ 990) : packOk [v] = true := pack_small [v] (by intro y hy; simp at hy; omega) (by simp)
/-- Another secret makes another packet. -/
theorem secret_other {x s r : Int} {ps ns ls : List Int} (h : makeOk x ps ns r ls = true) (hs : inG s = true) : makeOk s ps ns r ls = true ∧ (s ≠ x → (makeF s ps ns r ls).el ≠ (makeF x ps ns r ls).el) := by
  obtain ⟨q1, q2, q3, q4, q5, q6⟩ := makeOk_iff.1 h
  have h2 : makeOk s ps ns r ls = true := makeOk_iff.2 ⟨q1, hs, q3, q4, q5, q6⟩
  refine ⟨h2, fun hne he => hne ?_⟩
  rw [(make_valid h).2, (make_valid h2).2, mulG_comm s 5, mulG_comm x 5] at he
  exact mulG_inj (by decide) hs q2 he
theorem make_secret {x r : Int} {ps ns ls : List Int} (h : makeOk x ps ns r ls = true) : 1 ≤ x ∧ x ≤ 996 := inG_iff.1 (makeOk_iff.1 h).2.1

end Go.Proofs.Ytnjcpbkpcmemeac.Po
