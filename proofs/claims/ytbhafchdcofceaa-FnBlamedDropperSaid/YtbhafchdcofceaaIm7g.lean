/-
  Contracts of the program's chapter 12: the links of a map in order, the list of a map's counts.
-/
import Derived.Test.YtbhafchdcofceaaIm7f
import Derived.Test.YtbhafchdcofceaaLs
import Derived.Test.YtbhafchdcofceaaSrt
import Derived.Test.YtbhafchdcofceaaLg
import Derived.Deep.RegionHeld3
namespace Go.Proofs.Ytbhafchdcofceaa
open Go.RowKit Go.Shelf Go.Sort
namespace Im7
open Il Sl Lc Sp2 _root_.Go.Proofs.Ytbhafchdcofceaa.Nm Sp7 Mp

/-- Draws and blocks more, nothing else. -/
def GrewD (w w' : World) : Prop := ∃ q os, w' = grow (w.drewN q) os
theorem GrewD.refl (w : World) : GrewD w w := ⟨0, #[], by rw [grow_empty]; rfl⟩
theorem GrewD.alloc {w w' : World} (h : GrewD w w') (o : Obj) : GrewD w (w'.alloc o) := by
  obtain ⟨q, os, rfl⟩ := h
  exact ⟨q, os ++ #[o], by rw [alloc_eq_grow, grow_grow]⟩
theorem GrewD.drew {w w' : World} (h : GrewD w w') : GrewD w w'.drew := by
  obtain ⟨q, os, rfl⟩ := h
  exact ⟨q + 1, os, by rw [drew_grow]; rfl⟩

set_option maxRecDepth 20000 in
theorem compareLinksG (a1 a2 b1 b2 : Int) (w : World) : Calls Try.prog 37 #[.agg #[.int .i64 a1, .int .i64 a2], .agg #[.int .i64 b1, .int .i64 b2]] w fun e w' => e = .returned (.int .i64 (cmpL a1 a2 b1 b2)) ∧ GrewD w w' := by
  have B0 : Hid (GrewD w ((w.alloc (.cells #[.int .i64 a1, .int .i64 a2] 57)).alloc (.cells #[.int .i64 b1, .int .i64 b2] 57))) := ((GrewD.refl w).alloc _).alloc _
  obtain ⟨z0, z1⟩ := two_new w (.int .i64 a1) (.int .i64 a2) 57
  obtain ⟨y0, y1⟩ := two_new (w.alloc (.cells #[.int .i64 a1, .int .i64 a2] 57)) (.int .i64 b1) (.int .i64 b2) 57
  have z0' := (World.cell?_of_block (Below.heap_alloc (w.alloc (.cells #[.int .i64 a1, .int .i64 a2] 57)) (.cells #[.int .i64 b1, .int .i64 b2] 57) w.heap.size (by simp))).trans z0
  have z1' := (World.cell?_of_block (Below.heap_alloc (w.alloc (.cells #[.int .i64 a1, .int .i64 a2] 57)) (.cells #[.int .i64 b1, .int .i64 b2] 57) w.heap.size (by simp))).trans z1
  clear z0 z1
  have hs1 : (w.alloc (.cells #[.int .i64 a1, .int .i64 a2] 57)).heap.size = w.heap.size + 1 := by simp
  rw [hs1] at y0 y1
  clear hs1
  go_enter Try.func37, Try.ntmps37
  go_upto_region 1 with (fail)
  generalize hw2 : (w.alloc (.cells #[.int .i64 a1, .int .i64 a2] 57)).alloc (.cells #[.int .i64 b1, .int .i64 b2] 57) = w2 at *
  clear hw2
  refine wp_region_still_tail 10 (by kernel_rfl) (by kernel_rfl) ?_
  simp only [List.take_succ_cons, List.take_zero, List.drop_succ_cons, List.drop_zero]
  repeat still_step
  still_call ((cmpCompare a1 b1 _).mono fun _ _ ⟨h1, h2⟩ => ⟨h1, h2.symm⟩)
  repeat still_step
  still_call ((cmpCompare a2 b2 _).mono fun _ _ ⟨h1, h2⟩ => ⟨h1, h2.symm⟩)
  repeat still_step
  try refine wpStill_nil ?_
  change wpList _ _ _ _ _ (World.drew _)
  have HI : Hid (Ints w2.drew.heap.size (w2.drew.heap.size + 1) (w2.drew.alloc (.cells #[.int .i64 (cmpI a1 b1), .int .i64 (cmpI a2 b2)] 3)) (some ⟨w2.drew.heap.size, 0, none⟩) 2 2 [cmpI a1 b1, cmpI a2 b2]) := ints_two w2.drew _ _
  have HB : Hid (GrewD w (w2.drew.alloc (.cells #[.int .i64 (cmpI a1 b1), .int .i64 (cmpI a2 b2)] 3))) := B0.out.drew.alloc _
  generalize w2.drew = w3 at *
  have HC : Hid (cmpL a1 a2 b1 b2 = ors (cmpI a1 b1) (cmpI a2 b2)) := rfl
  generalize cmpI a1 b1 = p at *
  generalize cmpI a2 b2 = q at *
  go_wp2_with fail
  ((with_reducible refine (cmpOr _ _ _ _ p q _ HI.out).mono ?_); rintro e w4 ⟨rfl, rfl⟩)
  go_wp2
  go_ret
  rw [HC.out]
  exact ⟨rfl, HB.out⟩

/-- How links compare. -/
def cmp2 (p q : Int × Int) : Int := cmpL p.1 p.2 q.1 q.2
theorem lt2_of (p q : Int × Int) : ltOf cmp2 p q = lt2 p q := by
  unfold ltOf cmp2 cmpL ors cmpI lt2
  apply Bool.eq_iff_iff.2
  simp only [decide_eq_true_eq, Bool.or_eq_true, Bool.and_eq_true]
  split <;> split <;> (try split) <;> (try split) <;> omega
theorem swo2 : SWO (ltOf cmp2) where
  irrefl x := by rw [lt2_of]; unfold lt2; simp
  trans x y z h1 h2 := by rw [lt2_of] at *; rw [lt2_iff] at *; omega
  ntrans x y z h1 h2 := by
    rw [lt2_of] at *
    have e : ∀ p q : Int × Int, lt2 p q = false ↔ ¬ (p.1 < q.1 ∨ (p.1 = q.1 ∧ p.2 < q.2)) := fun p q => by
      rw [← lt2_iff]; simp
    rw [e] at *
    omega
/-- A row of links as the library's sort has it. -/
theorem holds2 {w : World} {g : Nat} {cur : Array Value} {t : TypeId} {ss : List (Int × Int)} (hh : w.heap[g]? = some (.cells cur t (0, 0))) (hl : cur.toList.take (ss.length * 2) = ss.flatMap c2) : HoldsK c2 2 w g 0 ss.toArray := by
  intro j hj
  rw [size_flatK] at hj
  have hj' : j < ss.length * 2 := by simpa using hj
  rw [get_flatK _ _ _ _ hj]
  refine ⟨?_, by simp [World.frozen?, hh]⟩
  rw [Nat.zero_add, cell_of_row w g j cur t (0, 0) hh, ← Array.getElem?_toList]
  have hi : j / 2 < ss.length := by omega
  have h1 : (ss.flatMap c2)[j / 2 * 2 + j % 2]? = (c2 ss[j / 2])[j % 2]? := flat_at c2_len (List.getElem?_eq_getElem hi) (by omega)
  have h2 : j / 2 * 2 + j % 2 = j := by omega
  rw [h2, ← hl, List.getElem?_take_of_lt hj'] at h1
  rw [h1]
  have e : (ss.toArray)[j / 2]! = ss[j / 2] := by simp [hi]
  rw [e]
  rcases (show j % 2 = 0 ∨ j % 2 = 1 by omega) with q | q <;> rw [q] <;> rfl
theorem holds2_row {w : World} {g cap : Nat} {d : Array (Int × Int)} (h : HoldsK c2 2 w g 0 d) (hg : g < w.heap.size) (hc : d.size ≤ cap) (hm : cap ≤ maxLen) : RowO g (g + 1) w (some ⟨g, 0, none⟩) d.toList.length cap 2 (d.toList.flatMap c2) := by
  refine ⟨⟨flat_len c2_len _, by simpa using hc, hm, fun _ => ⟨g, 0, rfl, Nat.le_refl _, by omega, hg, fun j v hj => ?_⟩⟩, fun b off _ e j hj => ?_⟩
  · have hjl := (List.getElem?_eq_some_iff.1 hj).1
    rw [flat_len c2_len] at hjl
    have hi : j / 2 < d.size := by simp at hjl; omega
    have h1 := (h.cell hi (show j % 2 < 2 by omega)).1
    have h2 : 0 + j / 2 * 2 + j % 2 = 0 + j := by omega
    rw [h2] at h1
    rw [h1]
    have h3 : (d.toList.flatMap c2)[j / 2 * 2 + j % 2]? = (c2 d[j / 2])[j % 2]? := flat_at c2_len (by simp [hi]) (by omega)
    have h4 : j / 2 * 2 + j % 2 = j := by omega
    rw [h4, hj] at h3
    rw [h3]
    have e : d[j / 2]! = d[j / 2] := by simp [hi]
    rw [e]
    rcases (show j % 2 = 0 ∨ j % 2 = 1 by omega) with q | q <;> rw [q] <;> rfl
  · simp only [Option.some.injEq, Addr.mk.injEq, and_true] at e
    obtain ⟨rfl, rfl⟩ := e
    have hi : j / 2 < d.size := by simp at hj; omega
    have h1 := (h.cell hi (show j % 2 < 2 by omega)).2
    have h2 : 0 + j / 2 * 2 + j % 2 = 0 + j := by omega
    rw [h2] at h1
    exact h1
theorem grown_sortK {w : World} {g n : Nat} {os : Array Obj} (d : Array (Int × Int)) : w.grownBy (sortWorldK c2 2 w g 0 n d os) (some g) := by
  refine ⟨rfl, rfl, rfl, ?_, fun k hk hne => ?_⟩
  · exact size_sortWorldK_c c2 2 w g 0 n d os
  · unfold sortWorldK
    have hk2 : k < (putRowK c2 2 (Sort.ahead w n) g 0 d).heap.size := by rw [size_putRowK]; exact hk
    rw [heap_grow_old _ _ hk2]
    have : g ≠ k := fun e => hne (by rw [e])
    simp [putRowK, putRow, mapBlock, Sort.ahead, Array.getElem?_modify, this]
/-- The keys of G in order. -/
theorem keys_sorted {G : Int × Int → Option (Int × Int)} {ss : List (Int × Int)} (hk : KeysOf G ss) {d : Array (Int × Int)} (hp : PermIn 0 ss.toArray.size ss.toArray d) (hs : SortedIn (ltOf cmp2) 0 ss.toArray.size d) : KeysOf G d.toList ∧ d.toList.Pairwise (fun a b => lt2 a b = true) ∧ d.size = ss.length := by
  obtain ⟨h1, _, h3⟩ := hp
  have h1' : d.size = ss.length := by simpa using h1
  have hperm : d.toList.Perm ss := by
    have e1 : d.extract 0 ss.toArray.size = d := by rw [show ss.toArray.size = d.size from by simp [h1']]; simp
    have e2 : ss.toArray.extract 0 ss.toArray.size = ss.toArray := by simp
    rw [e1, e2] at h3
    exact h3
  have hnd : d.toList.Nodup := hperm.nodup_iff.2 hk.1
  refine ⟨⟨hnd, fun a => by rw [hperm.mem_iff]; exact hk.2 a⟩, ?_, h1'⟩
  refine List.pairwise_iff_getElem.2 fun i j hi hj hij => ?_
  have hi' : i < d.size := by simpa using hi
  have hj' : j < d.size := by simpa using hj
  have := hs i j (Nat.zero_le _) hij (by simp; omega)
  rw [lt2_of] at this
  have ei : d[i]! = d.toList[i] := by simp [hi']
  have ej : d[j]! = d.toList[j] := by simp [hj']
  rw [ei, ej] at this
  have hne : d.toList[i] ≠ d.toList[j] := fun e => by
    have := (List.pairwise_iff_getElem.1 hnd) i j hi hj hij
    exact this e
  rw [lt2_iff]
  have h4 : ¬ (lt2 d.toList[j] d.toList[i] = true) := by rw [this]; decide
  rw [lt2_iff] at h4
  have h5 : ¬ (d.toList[i].1 = d.toList[j].1 ∧ d.toList[i].2 = d.toList[j].2) := fun q => hne (Prod.ext q.1 q.2)
  omega

/-- The keys of G in order in a new slice. -/
def SortPost (G : Int × Int → Option (Int × Int)) (w : World) (e : Ending) (w' : World) : Prop :=
  ∃ g c ss, e = .returned (.slice (some ⟨g, 0, none⟩) ss.length c) ∧ KeysOf G ss ∧ ss.Pairwise (fun a b => lt2 a b = true) ∧ RowO g (g + 1) w' (some ⟨g, 0, none⟩) ss.length c 2 (ss.flatMap c2) ∧ w.heap.size ≤ g ∧ g < w'.heap.size ∧ Below w.heap.size w w'
set_option maxRecDepth 20000 in
set_option maxHeartbeats 1000000 in
theorem sortedFunc (Bm b n : Nat) (G : Int × Int → Option (Int × Int)) (w : World) (hBm : Bm < w.heap.size) (hc : w.cell? ⟨Bm, 0, none⟩ = some (.map (some b))) (hM : MapL w b n G) (hn : n ≤ 1000000) (hne : ∃ a v, G a = some v) :
    Calls Try.prog 44 #[.func (.func 56) #[] #[.pointer (some ⟨Bm, 0, none⟩)], .func (.func 37) #[] #[]] w (SortPost G w) := by
  have H := Lib.hid (collect Bm b n G w hBm hc hM hn)
  have HNE := Lib.hid hne
  clear hc hM hne hBm hn
  go_enter Try.func44, Try.ntmps44
  go_wp2_with fail
  ((with_reducible refine (H.out).mono ?_); rintro e w1 ⟨v, ss, rfl, ⟨hK, hKl⟩, hr, hb⟩)
  have hpos : 0 < ss.length := by
    obtain ⟨a, u, hu⟩ := HNE.out
    exact List.length_pos_of_mem ((hK.2 a).2 ⟨u, hu⟩)
  rcases hr.2 with ⟨_, hz⟩ | ⟨gb, cap, cur, rfl, hbase, hgb, r1, r2, r3, r4⟩
  · exact absurd hz (by omega)
  · have hgl : gb < w1.heap.size := (Array.getElem?_eq_some_iff.1 hgb).1
    have hbig : ss.length < 4611686018427387904 := by omega
    have HC : Hid (Calls Try.prog 55 #[.slice (some ⟨gb, 0, none⟩) ss.length cap, .func (.func 37) #[] #[]] w1 fun e w' => e = .returned (.tuple #[]) ∧ ∃ d' n os, PermIn 0 ss.toArray.size ss.toArray d' ∧ SortedIn (ltOf cmp2) 0 ss.toArray.size d' ∧ w' = sortWorldK c2 2 w1 gb 0 n d' os) :=
      AnyQ.slices_SortFunc Srt.srt 2 Try.isAgg57 Try.sizeOf57 c2 c2_len c2_one cmp2 swo2 37 #[] gb 0 cap ss.toArray w1 (enters_of Try.func37 (by kernel_rfl) rfl) (fun _ _ _ _ x y => compareLinksG x.1 x.2 y.1 y.2 _) (holds2 hgb r4) hgl hbig
    have HF : Hid (∀ d' n os, PermIn 0 ss.toArray.size ss.toArray d' → SortedIn (ltOf cmp2) 0 ss.toArray.size d' → SortPost G w (.returned (.slice (some ⟨gb, 0, none⟩) ss.length cap)) (sortWorldK c2 2 w1 gb 0 n d' os)) := fun d' n os hp hs => by
      obtain ⟨k1, k2, k3⟩ := keys_sorted hK hp hs
      have hk4 := holdsK_sortWorldK_c c2 2 w1 gb 0 ss.toArray d' n os (holds2 hgb r4) hgl (by simpa using k3)
      have hsz2 := size_sortWorldK_c c2 2 w1 gb 0 n d' os
      have hrow := holds2_row hk4 (Nat.lt_of_lt_of_le hgl hsz2) (by rw [k3]; exact r1) r2
      have hl : d'.toList.length = ss.length := by simpa using k3
      refine ⟨gb, cap, d'.toList, by rw [hl], k1, k2, hrow, hbase, Nat.lt_of_lt_of_le hgl hsz2, hb.grown (grown_sortK d') hb.size (fun k e => by cases e; exact hbase)⟩
    clear hK hr hb hpos hbase hgb r1 r2 r3 r4 hgl hbig H HNE hKl
    go_wp2_with fail
    ((with_reducible refine (HC.out).mono ?_); rintro e w2 ⟨rfl, d', n2, os, hp, hs, hw⟩)
    have HP : Hid (SortPost G w (.returned (.slice (some ⟨gb, 0, none⟩) ss.length cap)) w2) := by rw [hw]; exact HF.out d' n2 os hp hs
    clear HC HF hp hs hw
    go_wp2
    go_ret
    exact HP.out

/-- What the loop of listOfCounts holds. -/
def LsRel (w wr : World) (b n g c : Nat) (G : Int × Int → Option (Int × Int)) (ss : List (Int × Int)) (v : Value) (ys : List Cnt) : Prop :=
  MapL wr b n G ∧ RowO g (g + 1) wr (some ⟨g, 0, none⟩) ss.length c 2 (ss.flatMap c2) ∧ (∃ g0, w.heap.size ≤ g0 ∧ g0 ≠ g ∧ Gat g0 wr v ys) ∧ Below w.heap.size w wr ∧ g < wr.heap.size ∧ b < w.heap.size
section
variable {w wr w2 : World} {b n g c : Nat} {G : Int × Int → Option (Int × Int)} {ss : List (Int × Int)} {v v' : Value} {ys : List Cnt}
theorem LsRel.below (h : LsRel w wr b n g c G ss v ys) (hb : Below wr.heap.size wr w2) : LsRel w w2 b n g c G ss v ys := by
  obtain ⟨h1, h2, ⟨g0, h3, h4, h5⟩, h6, h7, h8⟩ := h
  exact ⟨h1.below' hb, h2.below hb (Nat.le_refl _), ⟨g0, h3, h4, h5.below hb (Nat.le_refl _)⟩, h6.trans (hb.mono h6.size), Nat.lt_of_lt_of_le h7 hb.size, h8⟩
theorem LsRel.app {g0 g' : Nat} {z : Cnt} (h : LsRel w wr b n g c G ss v ys) (h3 : w.heap.size ≤ g0) (h4 : g0 ≠ g) (ha : Gat g' w2 v' (ys ++ [z])) (hg : g' = g0 ∨ wr.heap.size ≤ g') (hgr : wr.grownBy w2 (some g0)) : LsRel w w2 b n g c G ss v' (ys ++ [z]) := by
  obtain ⟨h1, h2, _, h6, h7, h8⟩ := h
  have hs := h6.size
  refine ⟨h1.same (hgr.block b (by omega) (by simp; omega)), h2.keep hgr.size (fun q q1 q2 q3 => hgr.block q q3 (by simp; omega)), ⟨g', by omega, by omega, ha⟩, h6.grown hgr hs (fun k hk => by cases hk; exact h3), Nat.lt_of_lt_of_le h7 hgr.size, h8⟩
theorem LsRel.key (h : LsRel w wr b n g c G ss v ys) {k : Nat} (hk : k < ss.length) : wr.cell? ⟨g, k * 2, none⟩ = some (.int .i64 (ss.getD k (0, 0)).1) ∧ wr.cell? ⟨g, k * 2 + 1, none⟩ = some (.int .i64 (ss.getD k (0, 0)).2) := by
  obtain ⟨b', off, e, _, _, _, hc⟩ := h.2.1.1.2.2.2 (by omega)
  simp only [Option.some.injEq, Addr.mk.injEq, and_true] at e
  obtain ⟨rfl, rfl⟩ := e
  have hg : ss[k]? = some (ss.getD k (0, 0)) := by rw [List.getD_eq_getElem?_getD, List.getElem?_eq_getElem hk]; rfl
  have h0 := hc (k * 2 + 0) _ ((flat_at c2_len hg (by omega)).trans rfl)
  have h1 := hc (k * 2 + 1) _ ((flat_at c2_len hg (by omega)).trans rfl)
  rw [Nat.zero_add] at h0 h1
  exact ⟨h0, h1⟩
theorem LsRel.post (h : LsRel w wr b n g c G ss v ys) : CntsPost ys w (.returned v) wr := by
  obtain ⟨_, _, ⟨g0, h3, _, h4⟩, h5, _⟩ := h
  obtain ⟨A2, c2, rfl, ho⟩ := h4.own
  have := h4.lt
  exact ⟨A2, c2, rfl, ho.mono (by omega) (by omega), h5⟩
end
section
variable {o : Oper} {a : Act} {Q : Exit → Act → World → Prop} {K : Act → World → Prop}
/-- append(out, c), the block known, in a region that draws its order. -/
theorem step_gApp {ops : Array Oper} {E : Prop} (g : Nat) (w : World) (v : Value) (xs : List Cnt) (hg : Gat g w v xs) (c : Cnt) (hl : xs.length ≤ 100000) (s y : Operand)
    (hgd : o.guard = none) (ho : o.op = .call { callee := .builtin .append, args := #[s, y], argTypes := #[23, 23] }) (hs : a.eval s = v) (hy : a.eval y = .slice (some ⟨w.heap.size, 0, none⟩) 1 1)
    (h : ∀ g' v' w', Gat g' w' v' (xs ++ [c]) → (g' = g ∨ w.heap.size ≤ g') → w.grownBy w' (some g) → K (a.put o.dst v') w') :
    if Region.wanted o (yielded ops a.tmps) = true then Oper.wp Try.prog o a (w.alloc (.cells #[.int .i64 c.fr, .int .i64 c.to_, .int .i64 c.se, .int .i64 c.ba] 37)) K Q else E := by
  have hsz : (w.alloc (.cells #[.int .i64 c.fr, .int .i64 c.to_, .int .i64 c.se, .int .i64 c.ba] 37)).heap.size = w.heap.size + 1 := by simp
  have hglt := hg.lt
  have hd : Dest 37 4 (some g) (w.alloc (.cells #[.int .i64 c.fr, .int .i64 c.to_, .int .i64 c.se, .int .i64 c.ba] 37)) v xs.length (xs.flatMap Cnt.cells) := .inr ⟨g, rfl, AccV.alloc hg _⟩
  refine step_appD elCnt (some g) _ v _ _ hd w.heap.size (w.heap.size + 1) _ 1 1 c.cells (row_lit w _ c.cells rfl) (cells_one c) (by omega) s y hgd ho hs hy fun g' v' w' q1 q2 q3 => ?_
  have hgr : w.grownBy w' (some g) := grown_trans (row := some g) (grown_alloc (World.grownBy.refl w (some g)) _) q3
  rcases q1 with ⟨rfl, _⟩ | ⟨k, rfl, ha⟩
  · rcases q2 with e | ⟨k, e, _⟩ <;> cases e
  · refine h k v' w' (by unfold Gat; rw [List.length_append, List.flatMap_append]; simpa using ha) ?_ hgr
    rcases q2 with e | ⟨q, e, hq⟩
    · cases e; exact .inl rfl
    · cases e; right; omega
end
section
variable {o : Oper} {a : Act} {Q : Exit → Act → World → Prop} {K : Act → World → Prop}
/-- .. behind the region's draw. -/
theorem step_gAppD {ops : Array Oper} {E : Prop} (g : Nat) (w : World) (v : Value) (xs : List Cnt) (hg : Gat g w.drew v xs) (c : Cnt) (hl : xs.length ≤ 100000) (s y : Operand)
    (hgd : o.guard = none) (ho : o.op = .call { callee := .builtin .append, args := #[s, y], argTypes := #[23, 23] }) (hs : a.eval s = v) (hy : a.eval y = .slice (some ⟨w.heap.size, 0, none⟩) 1 1)
    (h : ∀ g' v' w', Gat g' w' v' (xs ++ [c]) → (g' = g ∨ w.drew.heap.size ≤ g') → w.drew.grownBy w' (some g) → K (a.put o.dst v') w') :
    if Region.wanted o (yielded ops a.tmps) = true then Oper.wp Try.prog o a (w.alloc (.cells #[.int .i64 c.fr, .int .i64 c.to_, .int .i64 c.se, .int .i64 c.ba] 37)).drew K Q else E :=
  step_gApp g w.drew v xs hg c hl s y hgd ho hs hy h
end
theorem fieldS (x y : Int) (w : World) : (Instr.field 59 (.agg #[.int .i64 x, .int .i64 y]) 0).run Try.prog w = .ok (.int .i64 x) w := by kernel_rfl
theorem fieldB (x y : Int) (w : World) : (Instr.field 59 (.agg #[.int .i64 x, .int .i64 y]) 1).run Try.prog w = .ok (.int .i64 y) w := by kernel_rfl
theorem cntOf_some {G : Int × Int → Option (Int × Int)} {p v : Int × Int} (h : G p = some v) : cntOf G p = ⟨p.1, p.2, v.1, v.2⟩ := by unfold cntOf; rw [h]
theorem take_map {G : Int × Int → Option (Int × Int)} {ss : List (Int × Int)} {k : Nat} (h : k < ss.length) : (ss.take (k + 1)).map (cntOf G) = (ss.take k).map (cntOf G) ++ [cntOf G (ss.getD k (0, 0))] := by
  rw [List.take_succ_eq_append_getElem h, List.map_append, List.getD_eq_getElem?_getD, List.getElem?_eq_getElem h]; rfl
set_option maxRecDepth 20000 in
set_option maxHeartbeats 1000000 in
theorem listOfCounts (b n : Nat) (G : Int × Int → Option (Int × Int)) (ys : List Cnt) (w : World) (hM : MapL w b n G) (hn : n ≤ 10000) (hyl : ys.length ≤ 1000) (hne : ys ≠ []) (hG : GL G ys) (hs : Sd ys) (hw : ∀ x ∈ ys, wf x.fr ∧ wf x.to_) :
    Calls Try.prog 32 #[.map (some b)] w (CntsPost ys w) := by
  have hne2 : ∃ a v, G a = some v := by
    obtain ⟨y, hy⟩ := List.exists_mem_of_ne_nil ys hne
    exact ⟨(y.fr, y.to_), _, (hG _ _).2 ⟨y, hy, rfl, rfl, rfl⟩⟩
  have hwk : ∀ a v, G a = some v → wf a.1 ∧ wf a.2 := fun a v h => by
    obtain ⟨c, hc, h1, h2, _⟩ := (hG a v).1 h
    rw [← h1, ← h2]; exact hw c hc
  have HG := Lib.hid hG
  have HSD := Lib.hid hs
  have HW := Lib.hid hwk
  have HNE := Lib.hid hne2
  have HM := Lib.hid hM
  have HN := Lib.hid hn
  have HYL := Lib.hid hyl
  clear hyl hM hn hne hG hs hw hne2 hwk
  go_enter Try.func32, Try.ntmps32
  go_wp2_with fail
  ((with_reducible refine (keys (some b) _).mono ?_); rintro e w2 ⟨rfl, rfl⟩)
  have h1 : Below w.heap.size w (w.alloc (.cells #[] 37)) := (Below.refl _ _).alloc (Nat.le_refl _) _
  have h2 : Below w.heap.size (w.alloc (.cells #[] 37)) ((w.alloc (.cells #[] 37)).alloc (.cells #[.map (some b)] 54)) := (Below.refl _ _).alloc (by simp) _
  have h12 := h1.trans h2
  have HACC : Hid (Gat w.heap.size ((w.alloc (.cells #[] 37)).alloc (.cells #[.map (some b)] 54)) (.slice (some ⟨w.heap.size, 0, none⟩) 0 0) []) := (gat_new w).below ((Below.refl _ _).alloc (Nat.le_refl _) _) (Nat.le_refl _)
  have HBL := Lib.hid h12
  have HBB := Lib.hid HM.out.lt
  have HM2 := Lib.hid (HM.out.below' h12)
  have hc := (Boxed.new (w.alloc (.cells #[] 37)) 54 (.map (some b))).cell
  have hs1 : (w.alloc (.cells #[] 37)).heap.size = w.heap.size + 1 := by simp
  have hs2 : ((w.alloc (.cells #[] 37)).alloc (.cells #[.map (some b)] 54)).heap.size = w.heap.size + 1 + 1 := by simp
  rw [hs1] at hc
  generalize (w.alloc (.cells #[] 37)).alloc (.cells #[.map (some b)] 54) = w3 at *
  have HS := Lib.hid (sortedFunc (w.heap.size + 1) b n G w3 (by omega) hc HM2.out (by have := HN.out; omega) HNE.out)
  clear h1 h2 h12 hc hs1 hs2 HM HN HNE
  go_wp2_with fail
  ((with_reducible refine (HS.out).mono ?_); rintro e w4 ⟨g, c, ss, rfl, hK, hP, hR, hg1, hg2, hb⟩)
  have HR0 : Hid (LsRel w w4 b n g c G ss (.slice (some ⟨w.heap.size, 0, none⟩) 0 0) ((ss.take 0).map (cntOf G))) :=
    ⟨HM2.out.below' hb, hR, ⟨w.heap.size, Nat.le_refl _, by have := HACC.out.lt; omega, HACC.out.below hb (Nat.le_refl _)⟩, HBL.out.trans (hb.mono HBL.out.size), hg2, HBB.out⟩
  have HEQ := Lib.hid (HG.out.list HSD.out hK.2 hP)
  have HKK := Lib.hid hK
  have hsl : ss.length ≤ 1000 := by have := HYL.out; rw [← HEQ.out, List.length_map] at this; exact this
  have hcm := hR.1.2.2.1
  have hcn := hR.1.2.1
  unfold maxLen at hcm
  have HCM := Lib.hid hcm
  have HCN := Lib.hid hcn
  clear hK hP hR hg1 hg2 hb HS HM2 HACC HBL HBB HYL hcm hcn
  generalize hm : ss.length = m at *
  have HSL := Lib.hid hm
  clear hm
  go_wp2
  go_loopw [3, 11] (fun v i wr => ∃ k : Nat, k ≤ m ∧ i = .int .i64 k ∧ Hid (LsRel w wr b n g c G ss v ((ss.take k).map (cntOf G)))) (fun _ i _ => m - (intOf i).toNat)
  case atStart => exact ⟨0, Nat.zero_le _, rfl, HR0.out⟩
  case round =>
    obtain ⟨k, hk, rfl, hR⟩ := hrel
    clear HR0
    by_cases hlt : k < m
    · have hks : k < ss.length := by rw [HSL.out]; exact hlt
      obtain ⟨c0, c1⟩ := hR.out.key hks
      have HST := Lib.hid (take_map (G := G) hks)
      have hmem : ss.getD k (0, 0) ∈ ss := by rw [List.getD_eq_getElem?_getD, List.getElem?_eq_getElem hks]; exact List.getElem_mem hks
      obtain ⟨v, hv⟩ := (HKK.out.2 _).1 hmem
      rw [cntOf_some hv] at HST
      obtain ⟨hw1, hw2⟩ := HW.out _ _ hv
      have HYZ : Hid (((ss.take k).map (cntOf G)).length ≤ 100000) := by show _ ≤ _; rw [List.length_map, List.length_take]; omega
      generalize (ss.take k).map (cntOf G) = zs at *
      generalize ss.getD k (0, 0) = q at *
      obtain ⟨q1, q2⟩ := q
      obtain ⟨v1, v2⟩ := v
      dsimp only at c0 c1 HST hw1 hw2
      have hal : Below wr.heap.size wr (wr.alloc (.cells #[.int .i64 q1, .int .i64 q2] 57)) := (Below.refl _ _).alloc (Nat.le_refl _) _
      have hR2 := hR.out.below hal
      obtain ⟨l, hkey⟩ := keyL (p := (q1, q2)) hw1 hw2
      have HKL : Hid (∀ w' : World, MapL w' b n G → (Instr.lookup 54 (.map (some b)) (.agg #[.int .i64 q1, .int .i64 q2]) false).run Try.prog w' = .ok (.agg #[.int .i64 v1, .int .i64 v2]) w') := fun w' hm => by
        have := hm.lookup keyedL mk2_inj Try.underlying54 (zeroLoops w') hkey
        rw [hv] at this
        exact this
      have hblk : (wr.alloc (.cells #[.int .i64 q1, .int .i64 q2] 57)).heap[wr.heap.size]? = some (.cells #[.int .i64 q1, .int .i64 q2] 57 (0, 0)) := heap_alloc_new _ _
      have HTW : Hid (∀ w' : World, w'.heap[wr.heap.size]? = some (.cells #[.int .i64 q1, .int .i64 q2] 57 (0, 0)) → w'.cell? ⟨wr.heap.size, 0, none⟩ = some (.int .i64 q1) ∧ w'.cell? ⟨wr.heap.size, 1, none⟩ = some (.int .i64 q2)) := fun w' h => by
        refine ⟨?_, ?_⟩
        all_goals rw [cell_of_row _ _ _ _ _ _ h]; rfl
      have HR2 := Lib.hid hR2
      obtain ⟨g0, hg0, hg1, hgat⟩ := hR2.2.2.1
      have HG0 := Lib.hid hg0
      have HG1 := Lib.hid hg1
      have HGZ : Hid (g0 ≠ wr.heap.size) := by
        show g0 ≠ wr.heap.size
        intro e
        obtain ⟨cs, fr, h⟩ := AccV.typed hgat
        rw [e, hblk] at h
        simp at h
      have hfs := fieldS v1 v2
      have hfb := fieldB v1 v2
      have HFS := Lib.hid hfs
      have HFB := Lib.hid hfb
      obtain ⟨z0, z1⟩ := HTW.out _ hblk
      have HBK := Lib.hid hblk
      have HGT := Lib.hid hgat
      clear hkey hw1 hw2 hv hmem hks hal hR hR2 hg0 hg1 hfs hfb hblk hgat
      go_upto_region 5 with (fail)
      clear c0 c1
      generalize wr.heap.size = sz at *
      generalize wr.alloc (.cells #[.int .i64 q1, .int .i64 q2] 57) = w5 at *
      have hbd : Below w5.heap.size w5 w5.drew := ⟨rfl, rfl, rfl, Nat.le_refl _, fun _ _ => rfl⟩
      have hba : Below w5.heap.size w5 (w5.alloc (.cells #[.int .i64 q1, .int .i64 q2, .int .i64 v1, .int .i64 v2] 37)).drew := below_dr1 ((Below.refl _ _).alloc (Nat.le_refl _) _)
      have HR3 := Lib.hid (HR2.out.below hbd)
      have HGD := Lib.hid (HGT.out.below hbd (Nat.le_refl _))
      have hlz : sz < w5.heap.size := (Array.getElem?_eq_some_iff.1 HBK.out).1
      have SA : Hid (w5.drew.cell? ⟨sz, 0, none⟩ = some (.int .i64 q1) ∧ w5.drew.cell? ⟨sz, 1, none⟩ = some (.int .i64 q2) ∧ (Instr.lookup 54 (.map (some b)) (.agg #[.int .i64 q1, .int .i64 q2]) false).run Try.prog w5.drew = .ok (.agg #[.int .i64 v1, .int .i64 v2]) w5.drew) := ⟨z0, z1, HKL.out _ HR3.out.1⟩
      have SB : Hid ((w5.alloc (.cells #[.int .i64 q1, .int .i64 q2, .int .i64 v1, .int .i64 v2] 37)).drew.cell? ⟨sz, 0, none⟩ = some (.int .i64 q1) ∧ (w5.alloc (.cells #[.int .i64 q1, .int .i64 q2, .int .i64 v1, .int .i64 v2] 37)).drew.cell? ⟨sz, 1, none⟩ = some (.int .i64 q2) ∧ (Instr.lookup 54 (.map (some b)) (.agg #[.int .i64 q1, .int .i64 q2]) false).run Try.prog (w5.alloc (.cells #[.int .i64 q1, .int .i64 q2, .int .i64 v1, .int .i64 v2] 37)).drew = .ok (.agg #[.int .i64 v1, .int .i64 v2]) (w5.alloc (.cells #[.int .i64 q1, .int .i64 q2, .int .i64 v1, .int .i64 v2] 37)).drew) := ⟨(HTW.out _ ((hba.block _ hlz).trans HBK.out)).1, (HTW.out _ ((hba.block _ hlz).trans HBK.out)).2, HKL.out _ (HR2.out.1.below' hba)⟩
      have hf1 := HFS.out
      have hf2 := HFB.out
      clear z0 z1 hbd hba hlz
      go_region_held3 (fun w' => w'.cell? ⟨sz, 0, none⟩ = some (.int .i64 q1) ∧ w'.cell? ⟨sz, 1, none⟩ = some (.int .i64 q2) ∧ (Instr.lookup 54 (.map (some b)) (.agg #[.int .i64 q1, .int .i64 q2]) false).run Try.prog w' = .ok (.agg #[.int .i64 v1, .int .i64 v2]) w')
        (first | with_reducible exact SA.out | with_reducible exact SB.out | with_reducible exact kB | fail)
        (first
        | ((with_reducible refine step_gAppD g0 _ _ zs HGD.out ⟨q1, q2, v1, v2⟩ HYZ.out (.tmp 15) (.tmp 29) rfl rfl (by go_simp) (by go_simp) ?_); intro g' v' w6 hA hgg hgr; have kB : (w6.cell? ⟨sz, 0, none⟩ = some (.int .i64 q1) ∧ w6.cell? ⟨sz, 1, none⟩ = some (.int .i64 q2) ∧ (Instr.lookup 54 (.map (some b)) (.agg #[.int .i64 q1, .int .i64 q2]) false).run Try.prog w6 = .ok (.agg #[.int .i64 v1, .int .i64 v2]) w6) := (by
             have h6 : w6.heap[sz]? = some (.cells #[.int .i64 q1, .int .i64 q2] 57 (0, 0)) := (hgr.block sz (Array.getElem?_eq_some_iff.1 HBK.out).1 (by have := HGZ.out; simp; omega)).trans HBK.out
             exact ⟨(HTW.out _ h6).1, (HTW.out _ h6).2, HKL.out _ (LsRel.app HR3.out HG0.out HG1.out hA hgg hgr).1⟩)))
      all_goals
        have HA := Lib.hid (LsRel.app HR3.out HG0.out HG1.out hA hgg hgr)
        clear kB hA hgg hgr hf1 hf2 SA SB HGD HR3 HBK HGT HR2 HTW HKL
        go_wp2
        go_roundw
        case rel => exact ⟨k + 1, by omega, by go_num, by show LsRel _ _ _ _ _ _ _ _ _ _; rw [HST.out]; exact HA.out⟩
        case measure => simp [intOf]; omega
    · obtain rfl : k = m := by omega
      have HF : Hid ((ss.take k).map (cntOf G) = ys) := by show _ = _; rw [List.take_of_length_le (by rw [HSL.out]; exact Nat.le_refl _)]; exact HEQ.out
      rw [HF.out] at hR
      clear hlt HF
      go_wp2
      go_ret
      exact hR.out.post

end Im7
end Go.Proofs.Ytbhafchdcofceaa
