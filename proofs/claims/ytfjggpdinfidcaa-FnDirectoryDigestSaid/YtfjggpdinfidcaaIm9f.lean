/-
  Contracts of the library's Clone and Delete over entries.
-/
import Derived.Test.YtfjggpdinfidcaaIm9d
import Derived.Deep.RegionLaw
import Derived.Laws.IdiomCopy
namespace Go.Proofs.Ytfjggpdinfidcaa
open Go.RowKit Go.Shelf
namespace Im9
open Il Sl Gm Cm Ec Dm Sp9 Sg
attribute [local go_sem] Oper.semAt_some

set_option maxRecDepth 20000 in
theorem cloneE (lo hi : Nat) (A : Option Addr) (n c : Nat) (xs : List En) (w : World) (hx : Ens lo hi w A n c xs) (hn : n ≤ 100000) :
    Calls Try.prog 59 #[.slice A n c] w (EnsPost xs w) := by
  have hl := hx.len_
  cases A with
  | none =>
    have hz : n = 0 := by
      rcases Nat.eq_zero_or_pos n with h | h
      · exact h
      · obtain ⟨b, off, e, _⟩ := hx.2.2.2 h
        cases e
    subst hz
    obtain rfl := List.eq_nil_of_length_eq_zero hl
    have HP : Hid (EnsPost [] w (.returned (.slice none 0 0)) w) := ⟨none, 0, rfl, EnsO.nil_ (Nat.zero_le _), Below.refl _ _⟩
    clear hx hn hl
    have hnil : ∀ w, (binOp .eql 23 (.slice none 0 c) (.slice none 0 0)).run Try.prog w = .ok (.bool true) w := fun w => Lib.run_eql_slice_nil w _ _ _ _ _ _ _ Try.underlying23
    go_enter Try.func59, Try.ntmps59
    go_wp2
    go_ret
    exact HP.out
  | some ad =>
    have hal : Below w.heap.size w (w.alloc (.cells #[] 31)) := (Below.refl _ _).alloc (Nat.le_refl _) _
    have HD := Lib.hid (Ec.acc_new w)
    have HR := Lib.hid (hx.below hal (Nat.le_refl _))
    clear hx hal
    have hnil : ∀ w, (binOp .eql 23 (.slice (some ad) n c) (.slice none 0 0)).run Try.prog w = .ok (.bool false) w := fun w => Lib.run_eql_slice_nil w _ _ _ _ _ _ _ Try.underlying23
    go_enter Try.func59, Try.ntmps59
    go_wp2_with (at_builtin; refine Ec.wpList_cAppL w _ _ [] HD.out _ _ _ _ _ xs HR.out (by simp only [List.length_nil]; omega) _ _ rfl rfl rfl rfl ?_; intro v5 w5 hN5 hB5; rw [List.nil_append] at hN5)
    have HP := Lib.hid hN5.post
    clear hN5 hB5
    go_wp2
    go_ret
    exact HP.out

theorem kept_setCells {lo hi b : Nat} {w : World} (h1 : lo ≤ b) (h2 : b < hi) : ∀ (vs : List Value) (o : Nat) {w' : World}, Kept lo hi w w' → Kept lo hi w (w'.setCells b o vs)
  | [], _, _, h => h
  | v :: r, o, _, h => kept_setCells h1 h2 r (o + 1) (h.set (p := ⟨b, o, none⟩) h1 h2 v)

/-- clear(s), s a slice of one entry. -/
theorem clear_one (w : World) (ty : TypeId) (b o c : Nat) (hc : ∀ j, j < 3 → (w.cell? ⟨b, o + j, none⟩).isSome = true) (hf : ∀ j, j < 3 → w.frozen? ⟨b, o + j, none⟩ = false) :
    (Builtin.clear_ #[23] ty #[.slice (some ⟨b, o, none⟩) 1 c]).run Try.prog w = .ok (.tuple #[]) (w.setCells b o [.int .i64 0, .int .i64 0, .int .i64 0]) := by
  have hzc : (Builtin.zeroCells (Value.cells (.agg #[.int .i64 0, .int .i64 0, .int .i64 0])) 1).toList = [.int .i64 0, .int .i64 0, .int .i64 0] := by kernel_rfl
  have hst := run_storeCells_cells (P := Try.prog) b o [.int .i64 0, .int .i64 0, .int .i64 0] 0 w (by simpa using hc) (by simpa using hf) (by intro v hv; simp at hv; rw [hv]; rfl)
  simp only [Nat.add_zero] at hst
  simp [Builtin.clear_, run_underlying Try.underlying23, hzc, hst]

/-- What Delete leaves: the row without place i. -/
def DelPost (lo hi b off n cap i : Nat) (es : List En) (w : World) (e : Ending) (w' : World) : Prop :=
  e = .returned (.slice (some ⟨b, off, none⟩) (n - 1) cap) ∧ EnsO lo hi w' (some ⟨b, off, none⟩) (n - 1) cap (es.eraseIdx i) ∧ Kept lo hi w w'
theorem del_row {lo hi b off n cap i : Nat} {es : List En} {w : World} (hx : EnsO lo hi w (some ⟨b, off, none⟩) n cap es) (hin : i < n) (zs : List Value) :
    EnsO lo hi ((w.drew.setCells b (off + i * 3) ((es.drop (i + 1)).flatMap En.cells)).setCells b (off + (n - 1) * 3) zs) (some ⟨b, off, none⟩) (n - 1) cap (es.eraseIdx i) ∧ (zs.length = 3 → Kept lo hi w ((w.drew.setCells b (off + i * 3) ((es.drop (i + 1)).flatMap En.cells)).setCells b (off + (n - 1) * 3) zs)) := by
  have hl := hx.row_.len_
  obtain ⟨b', off', e, hb1, hb2, hbz, hc⟩ := hx.1.2.2.2 (by omega)
  simp only [Option.some.injEq, Addr.mk.injEq, and_true] at e
  obtain ⟨rfl, rfl⟩ := e
  have hel : (es.eraseIdx i).length = n - 1 := by rw [List.length_eraseIdx_of_lt (by omega)]; omega
  have hnl : ((es.drop (i + 1)).flatMap En.cells).length = (n - 1 - i) * 3 := by rw [flat_len cells_len, List.length_drop]; congr 1; omega
  have hK : Kept lo hi w ((w.drew.setCells b (off + i * 3) ((es.drop (i + 1)).flatMap En.cells)).setCells b (off + (n - 1) * 3) zs) :=
    kept_setCells hb1 hb2 _ _ (kept_setCells hb1 hb2 _ _ ((Kept.refl lo hi w).drewN 1))
  have hsome : ∀ j, j < n * 3 → (w.cell? ⟨b, off + j, none⟩).isSome = true := fun j hj => by
    rw [hc j _ (List.getElem?_eq_getElem (by rw [flat_len cells_len]; omega))]; rfl
  refine ⟨⟨⟨by rw [flat_len cells_len, hel], by have := hx.1.2.1; omega, hx.1.2.2.1, fun _ => ⟨b, off, rfl, hb1, hb2, by rw [hK.size]; exact hbz, fun j v hj => ?_⟩⟩, fun b2 off2 hn2 e j hj => ?_⟩, fun _ => hK⟩
  · have hjl : j < (n - 1) * 3 := by
      have := (List.getElem?_eq_some_iff.1 hj).1
      rwa [flat_len cells_len, hel] at this
    rw [World.cell?_setCells_out b zs _ _ _ (fun _ _ => .inl (by show off + j < _; omega))]
    rw [List.eraseIdx_eq_take_drop_succ, List.flatMap_append] at hj
    have htl : ((es.take i).flatMap En.cells).length = i * 3 := by rw [flat_len cells_len, List.length_take]; congr 1; omega
    by_cases h1 : j < i * 3
    · rw [List.getElem?_append_left (by omega)] at hj
      rw [World.cell?_setCells_out b _ _ _ _ (fun _ _ => .inl (by show off + j < _; omega))]
      refine hc j v ?_
      have hsp : es.flatMap En.cells = (es.take i).flatMap En.cells ++ (es.drop i).flatMap En.cells := by rw [← List.flatMap_append, List.take_append_drop]
      rw [hsp, List.getElem?_append_left (by omega)]
      exact hj
    · rw [List.getElem?_append_right (by omega), htl] at hj
      obtain ⟨hjx, hjv⟩ := List.getElem?_eq_some_iff.1 hj
      have := World.cell?_setCells_in b ((es.drop (i + 1)).flatMap En.cells) (off + i * 3) w.drew (fun q hq => by
        rw [hnl] at hq
        rw [Nat.add_assoc]
        exact hsome _ (by omega)) (j - i * 3) hjx
      rw [show off + i * 3 + (j - i * 3) = off + j by omega] at this
      rw [this, hjv]
  · simp only [Option.some.injEq, Addr.mk.injEq, and_true] at e
    obtain ⟨rfl, rfl⟩ := e
    rw [World.frozen?_setCells, World.frozen?_setCells]
    exact hx.2 b off (by omega) rfl j (by omega)
set_option maxHeartbeats 4000000 in
set_option maxRecDepth 100000 in
theorem deleteE (lo hi b off n cap i j : Nat) (es : List En) (w : World) (hx : EnsO lo hi w (some ⟨b, off, none⟩) n cap es) (hj : j = i + 1) (hin : i < n) (hn : n ≤ 100) :
    Calls Try.prog 61 #[.slice (some ⟨b, off, none⟩) n cap, .int .i64 i, .int .i64 j] w (DelPost lo hi b off n cap i es w) := by
  obtain ⟨i0, hi0, hz0, hz1, hz2⟩ := info_parts infoEn
  have hl := hx.row_.len_
  have hcap := hx.row_.cap_
  have hm := hx.row_.max_
  obtain ⟨b', off', e, hb1, hb2, hbz, hc⟩ := hx.1.2.2.2 (by omega)
  simp only [Option.some.injEq, Addr.mk.injEq, and_true] at e
  obtain ⟨rfl, rfl⟩ := e
  have hD := del_row hx hin [.int .i64 0, .int .i64 0, .int .i64 0]
  have hsome : ∀ q, q < n * 3 → (w.cell? ⟨b, off + q, none⟩).isSome = true := fun q hq => by
    rw [hc q _ (List.getElem?_eq_getElem (by rw [flat_len cells_len]; omega))]; rfl
  have hfree : ∀ q, q < n * 3 → w.frozen? ⟨b, off + q, none⟩ = false := fun q hq => hx.2 b off (by omega) rfl q hq
  obtain ⟨news, hnews⟩ : ∃ news, news = (es.drop (i + 1)).flatMap En.cells := ⟨_, rfl⟩
  have hnl : news.length = (n - j) * 3 := by rw [hnews, flat_len cells_len, List.length_drop]; congr 1; omega
  rw [← hnews] at hD
  obtain ⟨A, hA, hsrc⟩ : ∃ A : Addr, (if cap = j then some (⟨b, off, none⟩ : Addr) else some ⟨b, off + j * 3, none⟩) = some A ∧ Hid (∀ t u, news[t]? = some u → w.drew.cell? (A.add t) = some u) := by
    by_cases h : cap = j
    · refine ⟨⟨b, off, none⟩, by simp [h], fun t u hu => ?_⟩
      have h0 : news.length = 0 := by rw [hnl]; omega
      rw [List.length_eq_zero_iff.1 h0] at hu
      simp at hu
    · refine ⟨⟨b, off + j * 3, none⟩, by simp [h], fun t u hu => ?_⟩
      rw [hnews] at hu
      have hsp : es.flatMap En.cells = (es.take (i + 1)).flatMap En.cells ++ (es.drop (i + 1)).flatMap En.cells := by rw [← List.flatMap_append, List.take_append_drop]
      have htl : ((es.take (i + 1)).flatMap En.cells).length = j * 3 := by rw [flat_len cells_len, List.length_take]; congr 1; omega
      have hq : (es.flatMap En.cells)[j * 3 + t]? = some u := by
        rw [hsp, List.getElem?_append_right (by omega), htl, show j * 3 + t - j * 3 = t by omega]; exact hu
      have := hc (j * 3 + t) u hq
      have ea : Addr.add ⟨b, off + j * 3, none⟩ t = ⟨b, off + (j * 3 + t), none⟩ := by unfold Addr.add; split <;> simp_all [Nat.add_assoc]
      rw [ea]
      exact this
  have s1 : Hid (news.length = (n - j) * 3) := hnl
  have s2 : Hid (∀ u ∈ news, u.oneCell' = true) := by rw [hnews]; exact flat_one _
  have s3 : Hid (∀ t, t < news.length → (w.drew.cell? ⟨b, off + i * 3 + t, none⟩).isSome = true ∧ w.drew.frozen? ⟨b, off + i * 3 + t, none⟩ = false) := by
    intro t ht
    rw [hnl] at ht
    rw [Nat.add_assoc]
    exact ⟨hsome _ (by omega), hfree _ (by omega)⟩
  obtain ⟨W1, hW1⟩ : ∃ W1, W1 = w.drew.setCells b (off + i * 3) news := ⟨_, rfl⟩
  rw [← hW1] at hD
  have hcl : ∀ ty, (Builtin.clear_ #[23] ty #[.slice (some ⟨b, off + (n - 1) * 3, none⟩) 1 (cap - (n - 1))]).run Try.prog W1 = .ok (.tuple #[]) (W1.setCells b (off + (n - 1) * 3) [.int .i64 0, .int .i64 0, .int .i64 0]) := fun ty =>
    clear_one W1 ty b (off + (n - 1) * 3) _ (fun q hq => by
      rw [hW1]
      have : ∀ (vs : List Value) (o : Nat) (V : World), (V.cell? ⟨b, off + (n - 1) * 3 + q, none⟩).isSome = true → ((V.setCells b o vs).cell? ⟨b, off + (n - 1) * 3 + q, none⟩).isSome = true := fun vs => by
        induction vs with
        | nil => intro o V h; exact h
        | cons v r ih =>
          intro o V h
          refine ih (o + 1) _ ?_
          by_cases e : o = off + (n - 1) * 3 + q
          · subst e
            obtain ⟨u, hu⟩ := Option.isSome_iff_exists.1 h
            rw [World.cell?_setCell_same _ _ _ hu]; rfl
          · rw [World.cell?_setCell_other _ _ _ _ (by simp only [ne_eq, Addr.mk.injEq, true_and, and_true]; omega)]; exact h
      exact this _ _ _ (by rw [Nat.add_assoc]; exact hsome _ (by omega))) (fun q hq => by
      rw [hW1, World.frozen?_setCells, Nat.add_assoc]
      exact hfree _ (by omega))
  have hW : Hid (W1 = w.drew.setCells b (off + i * 3) news) := hW1
  have HD := Lib.hid (And.intro hD.1 (hD.2 rfl))
  have hic : i ≤ cap := by omega
  have hjc : j ≤ cap := by omega
  have hjn : j ≤ n := by omega
  have hij : i ≤ j := by omega
  have hne : ¬ i = j := by omega
  have hnm : i + (n - j) = n - 1 := by omega
  have hn1 : n - (n - 1) = 1 := by omega
  have HJ := Lib.hid hj
  clear hD hW1 hx hc hsome hfree hnews hnl hl hj
  go_enter Try.func61, Try.ntmps61
  go_wp2_with fail
  go_region_law (refine step_append_room rfl (.tmp 22) (.tmp 25) 23 rfl 31 i0 3 Try.underlying23 hi0 hz1 b off i cap (by simp [Act.eval, Act.put]) A (n - j) (cap - j) news (by simp [Act.eval, Act.put]) s1.out hsrc.out s2.out (by omega) s3.out ?_; rw [← hW.out])
  go_wp2
  go_ret
  exact ⟨rfl, HD.out.1, HD.out.2⟩

end Im9
end Go.Proofs.Ytfjggpdinfidcaa
