/-
  Slots that a call gathers by append; structs in blocks of their own.
-/
import Derived.Test.YtoghgliijjfppabAv
import Derived.Test.YtoghgliijjfppabKi
import Derived.Test.YtoghgliijjfppabCs
namespace Go.Proofs.Ytoghgliijjfppab
open Go.RowKit
namespace Cs
open Il Sl Fo Cm

theorem infoIntL : (Try.prog.info? 22).map (fun i => (i.zero, i.size, i.bytes)) = some (some (.slice none 0 0), 1, 24) := by kernel_rfl
theorem elSk : ElT 23 22 (.slice none 0 0) 1 24 := ⟨Try.underlying23, infoIntL, rfl, by omega, by omega⟩
theorem sk_one (ss : List Sk) : ∀ u ∈ ss.map Sk.cell, u.oneCell' = true := fun u hu => by
  obtain ⟨s, _, rfl⟩ := List.mem_map.1 hu
  rfl

/-- The slots v, gathered from lo on, all below hi. -/
def GatK (lo hi : Nat) (w : World) (v : Value) (ss : List Sk) : Prop :=
  ∃ g : Option Nat, Dest 22 1 g w v ss.length (ss.map Sk.cell) ∧ (∀ s ∈ ss, SkO w s) ∧ Foot (g.toList :: ss.map fpk) ∧ Within lo hi (g.toList :: ss.map fpk)
section
variable {lo hi lo' hi' : Nat} {w w' : World} {v : Value} {ss : List Sk}
theorem GatK.keep (h : GatK lo hi w v ss) (hs : w.heap.size ≤ w'.heap.size) (hk : ∀ x, lo ≤ x → x < hi → x < w.heap.size → w'.heap[x]? = w.heap[x]?) : GatK lo hi w' v ss := by
  obtain ⟨g, h1, h2, h3, h4⟩ := h
  refine ⟨g, dest_keep h1 fun k e => ?_, fun s hs' => (h2 s hs').keepC hs fun x hx => ?_, h3, h4⟩
  · have := h4 _ List.mem_cons_self k (by rw [e]; simp)
    exact hk k this.1 this.2 (dest_lt h1 k e)
  · have := h4 _ (List.mem_cons_of_mem _ (List.mem_map_of_mem hs')) x hx
    exact hk x this.1 this.2 ((h2 s hs').lt_ x hx)
theorem GatK.below {K : Nat} (h : GatK lo hi w v ss) (hb : Below K w w') (hB : w.heap.size ≤ K) : GatK lo hi w' v ss := h.keep hb.size fun x _ _ hx => hb.block x (by omega)
theorem GatK.mono (h : GatK lo hi w v ss) (h1 : lo' ≤ lo) (h2 : hi ≤ hi') : GatK lo' hi' w v ss := by
  obtain ⟨g, q1, q2, q3, q4⟩ := h
  exact ⟨g, q1, q2, q3, q4.mono h1 h2⟩
theorem GatK.drewN (h : GatK lo hi w v ss) (d : Nat) : GatK lo hi (w.drewN d) v ss := h.keep (Nat.le_refl _) fun _ _ _ _ => rfl
theorem GatK.nil_ (A : Option Addr) : GatK lo hi w (.slice A 0 0) [] := ⟨none, .inl ⟨rfl, rfl, rfl, A, rfl⟩, fun _ h => by simp at h, by simp [Foot], fun f hf x hx => by simp at hf; subst hf; simp at hx⟩
/-- Gathered slots are the call's own. -/
theorem GatK.own (h : GatK lo hi w v ss) : ∃ A c G, v = .slice A ss.length c ∧ StsO w A ss.length c (ss.map (·.xs)) G ∧ Within lo hi G := by
  obtain ⟨g, h1, h2, h3, h4⟩ := h
  rcases h1 with ⟨rfl, hz, _, A, rfl⟩ | ⟨k, rfl, ha⟩
  · have : ss = [] := List.eq_nil_of_length_eq_zero hz
    subst this
    exact ⟨A, 0, [[]], rfl, StsO.nil_ (Nat.zero_le _), within_nil⟩
  · obtain ⟨cap, rfl, hr⟩ := ha.row
    have hsub : ∀ x, x ∈ fp ss.length k → x ∈ (some k).toList := fun x hx => by simp [(mem_fp.1 hx).2]
    refine ⟨_, cap, fp ss.length k :: ss.map fpk, rfl, ⟨k, ss, rfl, hr, h2, rfl, ?_⟩, fun f hf x hx => ?_⟩
    · unfold Foot at h3 ⊢
      rw [List.pairwise_cons] at h3 ⊢
      exact ⟨fun f hf x q1 q2 => h3.1 f hf x (hsub x q1) q2, h3.2⟩
    · rcases List.mem_cons.1 hf with rfl | hf
      · exact h4 _ List.mem_cons_self x (hsub x hx)
      · exact h4 f (List.mem_cons_of_mem _ hf) x hx
theorem GatK.len1 (h : GatK lo hi w v ss) : ∃ A c, v = .slice A ss.length c := by
  obtain ⟨A, c, _, e, _⟩ := h.own
  exact ⟨A, c, e⟩
theorem GatK.sl (h : GatK lo hi w v ss) : ∃ A m c, v = .slice A m c := by
  obtain ⟨A, c, _, e, _⟩ := h.own
  exact ⟨A, _, c, e⟩
/-- append(out, x) where out is gathered. -/
theorem run_gatK {M : Nat} (hgp : GatK lo M w v ss) (x : Sk) (hs : SkO w x) (hsf : ∀ y ∈ fpk x, M ≤ y) (hlo : lo ≤ M) (hM : M ≤ w.heap.size) (hl : ss.length ≤ 100000) (ty : TypeId) :
    ∃ v' w', (Builtin.append_ #[23, 23] ty #[v, .slice (some ⟨w.heap.size, 0, none⟩) 1 1]).run Try.prog (w.alloc (.cells #[x.cell] 22)) = .ok v' w' ∧
      GatK lo w'.heap.size w' v' (ss ++ [x]) ∧ Below lo w w' ∧ (∀ y, y < w.heap.size → y < lo ∨ M ≤ y → w'.heap[y]? = w.heap[y]?) := by
  have hal : Below w.heap.size w (w.alloc (.cells #[x.cell] 22)) := (Below.refl _ _).alloc (Nat.le_refl _) _
  have hb1 : Below lo w (w.alloc (.cells #[x.cell] 22)) := hal.mono (by omega)
  obtain ⟨g, h1, h2, h3, h4⟩ := hgp
  have h1' : Dest 22 1 g (w.alloc (.cells #[x.cell] 22)) v ss.length (ss.map Sk.cell) := dest_keep h1 fun k e => hal.block k (dest_lt h1 k e)
  obtain ⟨g', v', w', hr, hd, hg, hgr⟩ := run_appD elSk ty h1' (row_lit w 22 [x.cell] rfl) (fun u hu => by simp at hu; subst hu; rfl) (by omega)
  have hsz : (w.alloc (.cells #[x.cell] 22)).heap.size = w.heap.size + 1 := by simp
  have hgs := hgr.size
  refine ⟨v', w', hr, ?_, ?_, ?_⟩
  · rcases hd with ⟨_, q, _⟩ | ⟨q, rfl, ha⟩
    · omega
    have hql := ha.lt
    -- the new block is the old one or a new one
    have hqq : g = some q ∨ w.heap.size < q := by
      rcases hg with e | ⟨k, e, hk⟩
      · exact .inl e.symm
      · simp only [Option.some.injEq] at e; right; omega
    have hqlo : lo ≤ q := by
      rcases hqq with e | e
      · exact (h4 _ List.mem_cons_self q (by rw [e]; simp)).1
      · omega
    have hall : ∀ t, t = x ∨ t ∈ ss → ∀ y ∈ fpk t, y ≠ q ∧ (∀ k, g = some k → y ≠ k) ∧ y < w.heap.size ∧ lo ≤ y := fun t ht y hy => by
      have hne : (∀ k, g = some k → y ≠ k) ∧ y < w.heap.size ∧ lo ≤ y := by
        rcases ht with rfl | ht
        · have := hsf y hy
          refine ⟨fun k e => ?_, hs.lt_ y hy, by omega⟩
          have := (h4 _ List.mem_cons_self k (by rw [e]; simp)).2
          omega
        · have q1 := h4 _ (List.mem_cons_of_mem _ (List.mem_map_of_mem ht)) y hy
          refine ⟨fun k e => ?_, by omega, q1.1⟩
          rintro rfl
          exact (List.pairwise_cons.1 h3).1 _ (List.mem_map_of_mem ht) y (by rw [e]; simp) hy
      refine ⟨?_, hne⟩
      rcases hqq with e | e
      · exact hne.1 q e
      · omega
    have hkeep : ∀ t, t = x ∨ t ∈ ss → SkO w t → SkO w' t := fun t ht ho => by
      refine ho.keepC (Nat.le_trans hal.size hgr.size) fun y hy => ?_
      obtain ⟨_, q2, q3, _⟩ := hall t ht y hy
      exact (hgr.block y (by omega) (fun e => q2 y e.symm rfl)).trans (hal.block y q3)
    refine ⟨some q, ?_, fun t ht => ?_, ?_, ?_⟩
    · rw [List.map_append, List.length_append]
      exact .inr ⟨q, rfl, ha⟩
    · rcases List.mem_append.1 ht with h | h
      · exact hkeep t (.inr h) (h2 t h)
      · simp only [List.mem_singleton] at h; subst h
        exact hkeep t (.inl rfl) hs
    · unfold Foot
      rw [List.map_append, List.map_singleton, List.pairwise_cons]
      refine ⟨fun f hf y q1 q2 => ?_, ?_⟩
      · simp at q1
        subst q1
        rcases List.mem_append.1 hf with h | h
        · obtain ⟨t, ht, rfl⟩ := List.mem_map.1 h
          exact (hall t (.inr ht) _ q2).1 rfl
        · simp only [List.mem_singleton] at h; subst h
          exact (hall x (.inl rfl) _ q2).1 rfl
      · rw [List.pairwise_append]
        refine ⟨(List.pairwise_cons.1 h3).2, by simp, fun f hf f2 hf2 y q1 q2 => ?_⟩
        simp only [List.mem_singleton] at hf2
        subst hf2
        have q3 := (h4 f (List.mem_cons_of_mem _ hf) y q1).2
        have q4 := hsf y q2
        omega
    · intro f hf y hy
      rcases List.mem_cons.1 hf with rfl | hf
      · simp at hy; subst hy; exact ⟨hqlo, hql⟩
      · rw [List.map_append, List.map_singleton] at hf
        have : ∃ t, (t = x ∨ t ∈ ss) ∧ f = fpk t := by
          rcases List.mem_append.1 hf with h | h
          · obtain ⟨t, ht, rfl⟩ := List.mem_map.1 h
            exact ⟨t, .inr ht, rfl⟩
          · simp only [List.mem_singleton] at h
            exact ⟨x, .inl rfl, h⟩
        obtain ⟨t, ht, rfl⟩ := this
        obtain ⟨_, _, q3, q4⟩ := hall t ht y hy
        omega
  · exact hb1.grown hgr (by omega) fun k e => (h4 _ List.mem_cons_self k (by rw [e]; simp)).1
  · intro y hy hd2
    refine (hgr.block y (by omega) (fun e => ?_)).trans (hal.block y hy)
    have := h4 _ List.mem_cons_self y (by rw [← e]; simp)
    omega
end
section
variable {o : Oper} {a : Act} {Q : Exit → Act → World → Prop} {K : Act → World → Prop}
/-- .. in a region of a fixed order. -/
theorem wpList_gatK {ops : Array Oper} {rest : List Oper} {lo M : Nat} {w : World} {v : Value} {ss : List Sk} (hgp : GatK lo M w v ss) (x : Sk) (hs : SkO w x) (hsf : ∀ y ∈ fpk x, M ≤ y) (hlo : lo ≤ M) (hM : M ≤ w.heap.size) (hl : ss.length ≤ 100000) (s y : Operand)
    (hgd : o.guard = none) (ho : o.op = .call { callee := .builtin .append, args := #[s, y], argTypes := #[23, 23] }) (hsv : a.eval s = v) (hy : a.eval y = .slice (some ⟨w.heap.size, 0, none⟩) 1 1)
    (h : ∀ v' w', GatK lo w'.heap.size w' v' (ss ++ [x]) → Below lo w w' → (∀ y, y < w.heap.size → y < lo ∨ M ≤ y → w'.heap[y]? = w.heap[y]?) → wpList Try.prog ops Q rest (a.put o.dst v') w') : wpList Try.prog ops Q (o :: rest) a (w.alloc (.cells #[x.cell] 22)) := by
  obtain ⟨v', w', hr, q1, q2, q3⟩ := run_gatK hgp x hs hsf hlo hM hl o.type
  refine wpList_plain hgd fun _ hK => ?_
  unfold Oper.wp execOp
  simp only [ho, resolve, invoke, builtin, Sem.run_bind, Sem.run_pure, Result.andThen_ok, List.map_toArray, List.map_cons, List.map_nil, hsv, hy, hr]
  exact hK _ _ (h v' w' q1 q2 q3)
/-- .. in a region that draws its order. -/
theorem step_gatK {ops : Array Oper} {E : Prop} {lo M : Nat} {w : World} {v : Value} {ss : List Sk} (hgp : GatK lo M w v ss) (x : Sk) (hs : SkO w x) (hsf : ∀ y ∈ fpk x, M ≤ y) (hlo : lo ≤ M) (hM : M ≤ w.heap.size) (hl : ss.length ≤ 100000) (s y : Operand)
    (hgd : o.guard = none) (ho : o.op = .call { callee := .builtin .append, args := #[s, y], argTypes := #[23, 23] }) (hsv : a.eval s = v) (hy : a.eval y = .slice (some ⟨w.heap.size, 0, none⟩) 1 1)
    (h : ∀ v' w', GatK lo w'.heap.size w' v' (ss ++ [x]) → Below lo w w' → (∀ y, y < w.heap.size → y < lo ∨ M ≤ y → w'.heap[y]? = w.heap[y]?) → K (a.put o.dst v') w') : if Region.wanted o (yielded ops a.tmps) = true then Oper.wp Try.prog o a (w.alloc (.cells #[x.cell] 22)) K Q else E := by
  have hw : Region.wanted o (yielded ops a.tmps) = true := by simp [Region.wanted, hgd]
  rw [if_pos hw]
  obtain ⟨v', w', hr, q1, q2, q3⟩ := run_gatK hgp x hs hsf hlo hM hl o.type
  unfold Oper.wp execOp
  simp only [ho, resolve, invoke, builtin, Sem.run_bind, Sem.run_pure, Result.andThen_ok, List.map_toArray, List.map_cons, List.map_nil, hsv, hy, hr]
  exact h v' w' q1 q2 q3
end

/-- A cache of the caller's own and another value are returned. -/
def CacheP (c : Ch) (v : Value) (w : World) (e : Ending) (w' : World) : Prop :=
  ∃ A k G, e = .returned (.tuple #[.agg #[.int .i64 c.ep, .slice A c.sl.length k], v]) ∧ StsO w' A c.sl.length k c.sl G ∧ Within w.heap.size w'.heap.size G ∧ Below w.heap.size w w'
/-- .. alone. -/
def CacheO (c : Ch) (w : World) (e : Ending) (w' : World) : Prop :=
  ∃ A k G, e = .returned (.agg #[.int .i64 c.ep, .slice A c.sl.length k]) ∧ StsO w' A c.sl.length k c.sl G ∧ Within w.heap.size w'.heap.size G ∧ Below w.heap.size w w'
theorem cacheP_zero {w w' : World} (v : Value) (hb : Below w.heap.size w w') : CacheP Ch.zero v w (.returned (.tuple #[.agg #[.int .i64 0, .slice none 0 0], v])) w' :=
  ⟨none, 0, [[]], rfl, StsO.nil_ (Nat.zero_le _), within_nil, hb⟩

end Cs
end Go.Proofs.Ytoghgliijjfppab
