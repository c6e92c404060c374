/-
  A region that draws its order, of plain operations alone, inside a fence: by the same region outside of it. Nothing of any program.
-/
import Derived.StillTailTactics
import Derived.OrdersIn
import Derived.RangeFuncNested
namespace Go.Proofs.Ytnjcpbkpcmemeac
namespace Rg
open Go

/-- An operation that neither calls nor defers nor communicates. -/
def calm (o : Oper) : Bool :=
  match o.op with
  | .move _ | .assign _ | .load _ _ | .store _ _ _ | .binOp _ _ _ _ _ | .unOp _ _ _ | .indexAddr _ _ _ => true
  | _ => false

section
variable {F : Fence} {n : Nat} {P : Program} {ops : Array Oper} {Q : Exit → Act → World → Prop} {md : Region.Mode} {o : Oper}

/-- What such an operation may come to. -/
def plain : Result Next → Prop
  | .ok (.value _) _ => True
  | .ok .skip _ => True
  | .ok _ _ => False
  | .halt _ _ => True

theorem plain_value (s : Sem Value) (w : World) : plain ((do pure (.value (← s)) : Sem Next).run P w) := by
  simp only [Sem.run_bind]
  cases s.run P w <;> simp [plain, Result.andThen]
theorem plain_skip (s : Sem Unit) (w : World) : plain ((do s; pure .skip : Sem Next).run P w) := by
  simp only [Sem.run_bind]
  cases s.run P w <;> simp [plain, Result.andThen]

theorem calm_plain (h : calm o = true) (ρ : Operand → Value) (w : World) : plain ((execOp ρ o).run P w) := by
  unfold calm at h
  unfold execOp
  split at h
  all_goals first | (cases h; done) | (rename_i ho; simp only [ho]; first | exact plain_value _ _ | exact plain_skip _ _ | (simp [plain]; done))
theorem calm_about (h : calm o = true) (ρ : Operand → Value) (w : World) : o.about P w ρ = none := by
  unfold calm at h
  unfold Oper.about
  split at h
  all_goals first | (cases h; done) | (rename_i ho; simp only [ho]; done)
theorem calm_sem (h : calm o = true) (ro : Option Nat) (ρ : Operand → Value) : o.semAt ro ρ = execOp ρ o := by
  refine Oper.semAt_eq ro ρ o fun c hc => ?_
  unfold calm at h
  rw [hc] at h
  cases h
theorem wpIn_of_wp (h : calm o = true) {a : Act} {w : World} {K : Act → World → Prop} (hh : o.wp P a w K Q) : o.wpIn F n P a w K Q := by
  refine ⟨fun f hf => (by rw [calm_about h] at hf; cases hf), ?_⟩
  rw [calm_sem h]
  have hp := calm_plain (P := P) h a.eval w
  unfold Oper.wp at hh
  generalize (execOp a.eval o).run P w = r at hp hh ⊢
  match r, hp, hh with
  | .ok (.value v) w', _, hh => exact hh
  | .ok .skip w', _, hh => exact hh
  | .halt (.panic v) w', _, hh => exact hh

theorem wpOpIn_of_wpOp {i : Nat} {K : Act → World → Prop} {a : Act} {w : World} (hQ : ¬ LetsOut Q) (hc : ops.all calm = true) (h : wpOp P ops Q i K a w) : wpOpIn F n P ops Q i K a w := by
  unfold wpOp at h
  unfold wpOpIn
  cases ho : ops[i]? with
  | none => simp only [ho] at h ⊢; exact h
  | some o =>
    have hco : calm o = true := by
      obtain ⟨hi, rfl⟩ := Array.getElem?_eq_some_iff.1 ho
      exact Array.all_eq_true.1 hc i hi
    simp only [ho] at h ⊢
    split
    · rename_i hw
      simp only [hw, if_true] at h
      rcases h with h | h
      · exact wpIn_of_wp hco h
      · exact absurd h.2 hQ
    · rename_i hw
      simp only [hw] at h
      exact ⟨fun f hf => (by rw [calm_about hco] at hf; cases hf), h⟩

theorem wpAnyIn_of_wpAny (hQ : ¬ LetsOut Q) (hc : ops.all calm = true) : ∀ (fuel : Nat) (listed : Array Bool) (a : Act) (w : World), wpAny P md ops Q fuel listed a w → wpAnyIn F n P md ops Q fuel listed a w
  | 0, _, _, _, h => h
  | fuel + 1, _, _, _, h => ⟨h.1, fun i hi => wpOpIn_of_wpOp hQ hc (wpOp_mono (fun a' w' h' => wpAnyIn_of_wpAny hQ hc fuel _ a' w' h') (h.2 i hi))⟩

theorem wpIn_region_still_tail {id : Nat} {a : Act} {w : World} {l : List Oper} (m : Nat) (hQ : ¬ LetsOut Q) (hc : l.toArray.all calm = true) (hm : P.follows .mixedOrders = true) (hB : Region.lexTailB .any l.toArray m = true)
    (h : wpStill P l.toArray { w with drawn := w.drawn + 1 } (fun a' => wpList P l.toArray Q (l.drop m) a' { w with drawn := w.drawn + 1 }) (l.take m) a) : (Code.region id l.toArray true).wpIn F n P Q a w := by
  simp only [Region.lexTailB, Bool.and_eq_true, decide_eq_true_eq] at hB
  obtain ⟨⟨⟨⟨hsel, hn⟩, hs⟩, hch⟩, hlex⟩ := hB
  have hn' : m < l.length := by simpa using hn
  have htl : (l.take m).length = m := by simp; omega
  have hdl : (l.drop m).length = l.toArray.size - m := by simp
  have inv0 : HeadInv .any l.toArray m (Array.replicate l.toArray.size false) :=
    ⟨by simp, fun j oj _ hl => (by rw [getD_replicate_false] at hl; cases hl), fun t _ ht => getD_in (by simpa using ht) (getD_replicate_false _ _)⟩
  have H := wpAnyL_lex (md := .any) (g := l.toArray.size - m) hsel hs hch hn (l.take m) 0 _ a (fun j hj => by
    have hj' : j < m := by rw [htl] at hj; exact hj
    simp [hj']) (by simpa using htl) inv0 (by rw [htl]; exact hlex) h
  refine wpIn_region_any hm (wpAnyIn_of_wpAny hQ hc _ _ _ _ ?_)
  have := wpAny_of_head (Q' := Q) (g := l.toArray.size - m) (fun listed a' hL => by
    have := wpAny_of_seq (md := .any) (Q' := Q) (l.drop m) m listed a' { w with drawn := w.drawn + 1 } (fun j => by simp [List.getElem?_drop]) (by rw [hdl]; exact hL.1) hL.2
    rwa [hdl] at this) _ _ _ H
  rw [htl, show m + (l.toArray.size - m) = l.toArray.size by omega] at this
  exact this
end
end Rg
end Go.Proofs.Ytnjcpbkpcmemeac
