/-
  Contracts of the program's chapter 2: streams, masking on and off.
-/
import Derived.Test.YtnjcpbkpcmemeacIt
import Derived.Test.YtnjcpbkpcmemeacRg
namespace Go.Proofs.Ytnjcpbkpcmemeac
open Go.RowKit Go.Shelf
namespace Im2
open Il (Ints NewInts NewIntsT infoInt own_made acc_new)
open Gm Mm
attribute [local go_sem] Oper.semAt_some

theorem ints_rows {lo hi : Nat} {w w' : World} {A : Option Addr} {n c : Nat} {xs : List Int} {row : Option Nat} (h : Ints lo hi w A n c xs) (hg : w.grownBy w' row) (hr : ∀ r, row = some r → ∃ o : Obj, w.heap[r]? = some o ∧ o.isCells = false) : Ints lo hi w' A n c xs :=
  ⟨h.1, h.2.1, h.2.2.1, fun hn => by
    obtain ⟨b, off, e, h1, h2, hz, hc⟩ := h.2.2.2 hn
    exact ⟨b, off, e, h1, h2, Nat.lt_of_lt_of_le hz hg.size, fun j hj => cell_kept (hc j hj) hg hr⟩⟩
theorem own_rows {lo hi : Nat} {w w' : World} {A : Option Addr} {n c : Nat} {xs : List Int} {row : Option Nat} (h : Il.Own lo hi w A n c xs) (hg : w.grownBy w' row) (hr : ∀ r, row = some r → ∃ o : Obj, w.heap[r]? = some o ∧ o.isCells = false) : Il.Own lo hi w' A n c xs :=
  ⟨ints_rows h.1 hg hr, fun b off hn e j hj => by
    obtain ⟨b', off', e', h1, h2, hz, hc⟩ := h.1.2.2.2 hn
    rw [e'] at e
    simp only [Option.some.injEq, Addr.mk.injEq, and_true] at e
    obtain ⟨rfl, rfl⟩ := e
    exact (frozen_kept (hc j hj) hg hr).trans (h.2 _ _ hn e' j hj)⟩

theorem set_all {f : Nat → Int} {n : Nat} {pre : List (Fin n)} {x : Fin n} {ys : List Int} (h : ∀ i : Fin n, i ∈ pre → ys.getD i.1 0 = f i.1) (hx : x.1 < ys.length) : ∀ i : Fin n, i ∈ pre ++ [x] → (ys.set x.1 (f x.1)).getD i.1 0 = f i.1 := fun i hi => by
  by_cases e : i.1 = x.1
  · rw [e, List.getD_eq_getElem?_getD, List.getElem?_set_self hx]; rfl
  · rw [List.getD_eq_getElem?_getD, List.getElem?_set_ne (by omega), ← List.getD_eq_getElem?_getD]
    rcases List.mem_append.1 hi with h1 | h1
    · exact h i h1
    · simp at h1; exact absurd (congrArg Fin.val h1) e
theorem all_eq {n : Nat} {xs ys : List Int} (hx : xs.length = n) (hy : ys.length = n) (h : ∀ i, i < n → xs.getD i 0 = ys.getD i 0) : xs = ys := by
  apply List.ext_getElem (by omega)
  intro i h1 h2
  have := h i (by omega)
  rw [List.getD_eq_getElem?_getD, List.getD_eq_getElem?_getD, List.getElem?_eq_getElem h1, List.getElem?_eq_getElem h2] at this
  simpa using this

theorem mapIdx_getD {f : Nat → Int → Int} {xs : List Int} {i : Nat} (h : i < xs.length) : (xs.mapIdx f).getD i 0 = f i (xs.getD i 0) := by
  rw [List.getD_eq_getElem?_getD, List.getD_eq_getElem?_getD, List.getElem?_eq_getElem (by simpa using h), List.getElem?_eq_getElem h]
  simp

/-- One number with the stream added or subtracted; a list of them. -/
def sgn (key sign : Int) (i : Nat) (x : Int) : Int := (x + sign * at2 key i + 991) % 991
def signL (xs : List Int) (key sign : Int) : List Int := xs.mapIdx (sgn key sign)
theorem signL_len {xs : List Int} {key sign : Int} : (signL xs key sign).length = xs.length := by simp [signL]
theorem signL_getD {xs : List Int} {key sign : Int} {i : Nat} (h : i < xs.length) : (signL xs key sign).getD i 0 = sgn key sign i (xs.getD i 0) := mapIdx_getD h

/-- What the loop of withStream has written: the boxes of the list, the sign and the new list. -/
def WInv (w : World) (A0 : Option Addr) (c0 : Nat) (xs : List Int) (sign : Int) (f : Nat → Int) (n : Nat) (pre : List (Fin n)) (W : World) : Prop :=
  Boxed W w.heap.size 23 (.slice A0 n c0) ∧ Boxed W (w.heap.size + 1) 3 (.int .i64 sign) ∧ Ints 0 w.heap.size W A0 n c0 xs ∧
  ∃ A ys, Boxed W (w.heap.size + 1 + 1 + 1) 23 (.slice A n n) ∧ Il.Own (w.heap.size + 1 + 1) (w.heap.size + 1 + 1 + 1) W A n n ys ∧ ∀ i : Fin n, i ∈ pre → ys.getD i.1 0 = f i.1

set_option maxRecDepth 100000 in
set_option maxHeartbeats 2000000 in
theorem withOk (lo hi : Nat) (A0 : Option Addr) (n c0 : Nat) (xs : List Int) (key sign : Int) (w : World) (hx : Ints lo hi w A0 n c0 xs) (hok : okL xs = true) (h1 : 1 ≤ key) (h2 : key ≤ 996) (hs1 : -1 ≤ sign) (hs2 : sign ≤ 1) :
    Calls Try.prog 102 #[.slice A0 n c0, .int .i64 key, .int .i64 sign] w (NewIntsT w (signL xs key sign)) := by
  have hn : n ≤ 24 := by rw [← hx.1]; exact (okL_iff.1 hok).2
  have hc0 := hx.2.1
  have hmk := run_make_row' (P := Try.prog) 23 3 (.int .i64 0) 8 Try.underlying23 infoInt rfl .i64 .i64 n (by omega) (by omega)
  have HX := Lib.hid (show Ints 0 w.heap.size w A0 n c0 xs from ⟨hx.1, hx.2.1, hx.2.2.1, fun hn => by
    obtain ⟨b, off, e, _, _, hz, hc⟩ := hx.2.2.2 hn
    exact ⟨b, off, e, Nat.zero_le _, hz, hz, hc⟩⟩)
  have hl := hx.1
  clear hx
  have HOK := Lib.hid hok
  clear hok
  refine (callsIn_wide (n := 5)).1 ?_
  refine callsIn_of_wp_marks Try.func102 rfl trivial ?_ rfl
  simp only [Try.ntmps102, List.size_toArray, List.length_cons, List.length_nil, Nat.reduceAdd, Nat.reduceSub, Array.replicate_succ, Array.replicate_zero, List.push_toArray, List.append_toArray, List.nil_append, List.cons_append]
  gi_wp2_with (refine ⟨trivial, ?_⟩; first
    | (gi_at_call 82; refine (callsIn_wide.2 (listValid 0 w.heap.size A0 n c0 xs _ ((HX.out.below ((Below.refl _ w).alloc (Nat.le_refl _) _) (Nat.le_refl _)).below ((Below.refl _ _).alloc (Nat.le_refl _) _) (Nat.le_refl _)))).mono ?_; rintro e w' ⟨rfl, rfl⟩; rw [HOK.out])
    | (gi_at_call 51; refine (callsIn_wide.2 (inRange_yes key _ h1 h2)).mono ?_; rintro e w' ⟨rfl, rfl⟩)
    | (gi_at_call 111; refine (callsIn_wide.2 (numbers key n _)).mono ?_; rintro e w' ⟨rfl, rfl⟩))
  have hB0 : Below w.heap.size w ((((((w.alloc (.cells #[.slice A0 n c0] 23)).alloc (.cells #[.int .i64 sign] 3)).alloc (.cells (madeCells #[.int .i64 0] n) 3)).alloc (.cells #[.slice (some ⟨w.heap.size + 1 + 1, 0, none⟩) n n] 23)).alloc (.cells #[.int .i64 key] 3)).alloc (.cells #[.int .i64 n] 3)) :=
    (((((((Below.refl _ w).alloc (by simp) _).alloc (by simp) _).alloc (by simp; omega) _).alloc (by simp; omega) _).alloc (by simp; omega) _).alloc (by simp; omega) _)
  have hI0 := HX.out
  have hb0 : Below w.heap.size w (w.alloc (.cells #[.slice A0 n c0] 23)) := (Below.refl _ _).alloc (Nat.le_refl _) _
  replace hI0 := hI0.below hb0 (Nat.le_refl _)
  have bl := Boxed.new w 23 (.slice A0 n c0)
  have hz1 : (w.alloc (.cells #[.slice A0 n c0] 23)).heap.size = w.heap.size + 1 := by simp
  clear hb0
  generalize hwe0 : (w.alloc (.cells #[.slice A0 n c0] 23)) = w1 at hB0 hI0 hz1 bl ⊢
  have hb1 : Below w1.heap.size w1 (w1.alloc (.cells #[.int .i64 sign] 3)) := (Below.refl _ _).alloc (Nat.le_refl _) _
  replace hI0 := hI0.below hb1 (Nat.le_refl _)
  replace bl := bl.alloc (.cells #[.int .i64 sign] 3)
  have bs := Boxed.new w1 3 (.int .i64 sign)
  have hz2 : (w1.alloc (.cells #[.int .i64 sign] 3)).heap.size = w.heap.size + 1 + 1 := by simp [hz1]
  rw [hz1] at bs
  clear hb1
  generalize hwe1 : (w1.alloc (.cells #[.int .i64 sign] 3)) = w2 at hB0 hI0 hz2 bl bs ⊢
  clear hz1
  have hb2 : Below w2.heap.size w2 (w2.alloc (.cells (madeCells #[.int .i64 0] n) 3)) := (Below.refl _ _).alloc (Nat.le_refl _) _
  replace hI0 := hI0.below hb2 (Nat.le_refl _)
  replace bl := bl.alloc (.cells (madeCells #[.int .i64 0] n) 3)
  replace bs := bs.alloc (.cells (madeCells #[.int .i64 0] n) 3)
  have ho := own_made w2 3 n (by unfold maxLen; omega)
  have hz3 : (w2.alloc (.cells (madeCells #[.int .i64 0] n) 3)).heap.size = w.heap.size + 1 + 1 + 1 := by simp [hz2]
  rw [hz2] at ho
  clear hb2
  generalize hwe2 : (w2.alloc (.cells (madeCells #[.int .i64 0] n) 3)) = w3 at hB0 hI0 hz3 bl bs ho ⊢
  clear hz2
  have hb3 : Below w3.heap.size w3 (w3.alloc (.cells #[.slice (some ⟨w.heap.size + 1 + 1, 0, none⟩) n n] 23)) := (Below.refl _ _).alloc (Nat.le_refl _) _
  replace hI0 := hI0.below hb3 (Nat.le_refl _)
  replace bl := bl.alloc (.cells #[.slice (some ⟨w.heap.size + 1 + 1, 0, none⟩) n n] 23)
  replace bs := bs.alloc (.cells #[.slice (some ⟨w.heap.size + 1 + 1, 0, none⟩) n n] 23)
  have bm := Boxed.new w3 23 (.slice (some ⟨w.heap.size + 1 + 1, 0, none⟩) n n)
  replace ho := ho.below hb3 (Nat.le_refl _)
  have hz4 : (w3.alloc (.cells #[.slice (some ⟨w.heap.size + 1 + 1, 0, none⟩) n n] 23)).heap.size = w.heap.size + 1 + 1 + 1 + 1 := by simp [hz3]
  rw [hz3] at bm
  clear hb3
  generalize hwe3 : (w3.alloc (.cells #[.slice (some ⟨w.heap.size + 1 + 1, 0, none⟩) n n] 23)) = w4 at hB0 hI0 hz4 bl bs bm ho ⊢
  clear hz3
  have hb4 : Below w4.heap.size w4 (w4.alloc (.cells #[.int .i64 key] 3)) := (Below.refl _ _).alloc (Nat.le_refl _) _
  replace hI0 := hI0.below hb4 (Nat.le_refl _)
  replace bl := bl.alloc (.cells #[.int .i64 key] 3)
  replace bs := bs.alloc (.cells #[.int .i64 key] 3)
  replace bm := bm.alloc (.cells #[.int .i64 key] 3)
  have bk := Boxed.new w4 3 (.int .i64 key)
  replace ho := ho.below hb4 (Nat.le_refl _)
  have hz5 : (w4.alloc (.cells #[.int .i64 key] 3)).heap.size = w.heap.size + 1 + 1 + 1 + 1 + 1 := by simp [hz4]
  rw [hz4] at bk
  clear hb4
  generalize hwe4 : (w4.alloc (.cells #[.int .i64 key] 3)) = w5 at hB0 hI0 hz5 bl bs bm bk ho ⊢
  clear hz4
  have hb5 : Below w5.heap.size w5 (w5.alloc (.cells #[.int .i64 n] 3)) := (Below.refl _ _).alloc (Nat.le_refl _) _
  replace hI0 := hI0.below hb5 (Nat.le_refl _)
  replace bl := bl.alloc (.cells #[.int .i64 n] 3)
  replace bs := bs.alloc (.cells #[.int .i64 n] 3)
  replace bm := bm.alloc (.cells #[.int .i64 n] 3)
  replace bk := bk.alloc (.cells #[.int .i64 n] 3)
  have bn := Boxed.new w5 3 (.int .i64 n)
  replace ho := ho.below hb5 (Nat.le_refl _)
  have hz6 : (w5.alloc (.cells #[.int .i64 n] 3)).heap.size = w.heap.size + 1 + 1 + 1 + 1 + 1 + 1 := by simp [hz5]
  rw [hz5] at bn
  clear hb5
  generalize hwe5 : (w5.alloc (.cells #[.int .i64 n] 3)) = w6 at hB0 hI0 hz6 bl bs bm bk bn ho ⊢
  clear hz5
  clear hwe0 hwe1 hwe2 hwe3 hwe4 hwe5 hmk
  refine wpIn_rangeFunc_ownG rfl (by omega) (gf := 114) (lb := #[.pointer (some ⟨w.heap.size + 1 + 1 + 1 + 1 + 1, 0, none⟩), .pointer (some ⟨w.heap.size + 1 + 1 + 1 + 1, 0, none⟩)]) rfl trivial (enters_of Try.func114 (by kernel_rfl) rfl)
    (nums_stops 4 (by omega) key n h1 h2 hn (w.heap.size + 1 + 1 + 1 + 1 + 1) (w.heap.size + 1 + 1 + 1 + 1) w6 (by omega) (by omega) bn.cell bk.cell) kpB_t (kpB_b (by omega)) (Below.refl _ _) (fun _ => rfl)
    (fun pre W => WInv w A0 c0 xs sign (fun i => sgn key sign i (xs.getD i 0)) n pre W ∧ Below w.heap.size w W) (fun _ _ _ => False)
    (OwnFrom.and (fun s X Y row hs hg hr => by
      obtain ⟨hl, hs, hi, A, ys, hb, ho, hall⟩ := hs
      exact ⟨Own.from (boxed_own _ _ (fun _ : Unit => _)) _ () X Y row hl hg hr, Own.from (boxed_own _ _ (fun _ : Unit => _)) _ () X Y row hs hg hr, ints_rows hi hg (fun r e => (hr r e).2), A, ys, Own.from (boxed_own _ _ (fun _ : Unit => _)) _ () X Y row hb hg hr, own_rows ho hg (fun r e => (hr r e).2), hall⟩) (ownFrom_below (Nat.le_refl _) (by omega)))
    (fun _ _ _ _ _ hs _ _ => hs)
    ⟨⟨bl, bs, hI0, _, _, bm, ho, fun i h => by simp at h⟩, hB0⟩ ?a1 ?assign ?body ?done ?stop
  case assign =>
    intro l x W K hK
    gi_wp2
    exact hK
  case body =>
    rintro l pre x W ⟨⟨hbl, hbs, hi, A, ys, hb, ho, hall⟩, hB⟩ _
    obtain ⟨b, off, rfl, hb1, hb2, hcx⟩ := ho.1.at_ x.2
    obtain ⟨b0, off0, rfl, _, hb0, hcy⟩ := hi.at_ x.2
    have hfz := ho.2 b off (by have := x.2; omega) rfl x.1 x.2
    have hc1 := hbl.cell
    have hc2 := hbs.cell
    have hc5 := hb.cell
    have hxl := x.2
    have hmx : Try.prog.follows .mixedOrders = true := by kernel_rfl
    have hyb := okL_at HOK.out (k := x.1) (by omega)
    have hsb := at2_bd key x.1
    have hset := set_all (f := fun i => sgn key sign i (xs.getD i 0)) hall (show x.1 < ys.length by rw [ho.1.1]; exact x.2)
    have hev : sgn key sign x.1 (xs.getD x.1 0) = (xs.getD x.1 0 + sign * at2 key x.1 + 991) % 991 := rfl
    have HSET := Lib.hid hset
    have HEV := Lib.hid hev
    clear hset hev hall
    generalize at2 key x.1 = s at hsb HEV ⊢
    generalize hye : xs.getD x.1 0 = y at hyb hcy HEV ⊢
    have HYE := Lib.hid hye
    clear hye
    have hp : -990 ≤ sign * s ∧ sign * s ≤ 990 := by
      obtain rfl | rfl | rfl : sign = -1 ∨ sign = 0 ∨ sign = 1 := by omega
      all_goals omega
    obtain ⟨hp1, hp2⟩ := hp
    obtain ⟨hy1, hy2⟩ := hyb
    gi_wp2
    refine Rg.wpIn_region_still_tail 12 (by rintro ⟨_, _, h⟩; exact h) (by kernel_rfl) hmx (by kernel_rfl) ?_
    simp only [List.take_succ_cons, List.take_zero, List.drop_succ_cons, List.drop_zero]
    repeat still_step
    refine wpStill_nil ?_
    go_wp2
    rw [← HEV.out]
    have hset := HSET.out
    rw [HYE.out] at hset
    have hoo := ho.set_ x.2 (sgn key sign x.1 y)
    refine ⟨((KeepsOthers.setCell _ _ _).trans (KeepsOthers.drew _)).from _, World.cell?_of_block (w := W) (Below.heap_setCell _ _ _ _ (by dsimp only; omega)),
      ⟨(Below.heap_setCell _ _ _ _ (by dsimp only; omega)).trans hbl, (Below.heap_setCell _ _ _ _ (by dsimp only; omega)).trans hbs, hi.keep (by simp [World.setCell, World.drew]) (fun i _ h2 _ => Below.heap_setCell _ _ _ _ (by dsimp only; omega)),
      _, _, (Below.heap_setCell _ _ _ _ (by dsimp only; omega)).trans hb, hoo, hset⟩, (hB.setCell (p := ⟨b, off + x.1, none⟩) (by dsimp only; omega) _).drew⟩
  case done =>
    rintro D ys W hD hall ⟨⟨hbl, hbs, hi, A, zs, hb, ho, hz⟩, hB⟩ hK
    have hc5 := hb.cell
    gi_wp2
    refine ⟨by simp, .inl ⟨_, _, rfl, run_takeDeferred hK, ?_⟩⟩
    obtain rfl : zs = signL xs key sign := all_eq ho.1.1 (signL_len.trans hl) fun i hi => by rw [hz ⟨i, hi⟩ (hall _), signL_getD (by omega)]
    have hg := grownBy_putObj' W D (.deferred none)
    have hr : ∀ r, some D = some r → ∃ o : Obj, W.heap[r]? = some o ∧ o.isCells = false := fun r e => by cases e; exact ⟨_, hK, rfl⟩
    have ho' := own_rows ho hg hr
    have hsz := hg.size
    have hsB := hB.size
    refine ⟨_, results_tmp rfl _ _ _, ?_⟩
    have hml : (signL xs key sign).length = n := signL_len.trans hl
    refine ⟨A, ?_, ?_, hB.trans (belowK_b (w := w) (Nat.le_refl _) W D _ _ (by omega) hK rfl rfl)⟩
    · rw [hml]
      rfl
    · rw [hml]
      have hDl : D < W.heap.size := (Array.getElem?_eq_some_iff.1 hK).1
      exact ho'.mono (by omega) (by omega)
  case stop =>
    rintro D c pre W _ _ h _
    exact h.elim
set_option maxRecDepth 20000 in
theorem withBad (lo hi : Nat) (A0 : Option Addr) (n c0 : Nat) (xs : List Int) (key sign : Int) (w : World) (hx : Ints lo hi w A0 n c0 xs) (hb : okL xs = false ∨ inG key = false) :
    Calls Try.prog 102 #[.slice A0 n c0, .int .i64 key, .int .i64 sign] w (NewIntsT w []) := by
  have HX := Lib.hid hx
  clear hx
  have hB2 : Below w.heap.size w ((w.alloc (.cells #[.slice A0 n c0] 23)).alloc (.cells #[.int .i64 sign] 3)) := ((Below.refl _ w).alloc (Nat.le_refl _) _).alloc (by simp) _
  have HP : Hid (NewIntsT w [] (.returned (.slice (some ⟨((w.alloc (.cells #[.slice A0 n c0] 23)).alloc (.cells #[.int .i64 sign] 3)).heap.size, 0, none⟩) 0 0)) (((w.alloc (.cells #[.slice A0 n c0] 23)).alloc (.cells #[.int .i64 sign] 3)).alloc (.cells #[] 3))) :=
    ⟨_, rfl, Il.Own.nil_ (Nat.zero_le _), hB2.alloc hB2.size _⟩
  have HX2 := Lib.hid (HX.out.below hB2 (Nat.le_refl _))
  clear hB2
  have hs2 : ((w.alloc (.cells #[.slice A0 n c0] 23)).alloc (.cells #[.int .i64 sign] 3)).heap.size = w.heap.size + 1 + 1 := by simp
  rw [hs2] at HP
  clear hs2
  cases hok : okL xs
  · clear hb
    go_enter Try.func102, Try.ntmps102
    go_wp2_with fail
    ((with_reducible refine (listValid _ _ _ _ _ _ _ HX2.out).mono ?_); rintro e w' ⟨rfl, rfl⟩)
    rw [hok]
    clear hok
    go_wp2
    go_ret
    exact HP.out
  · have hg : inG key = false := hb.resolve_left (by rw [hok]; decide)
    clear hb
    go_enter Try.func102, Try.ntmps102
    go_wp2_with fail
    ((with_reducible refine (listValid _ _ _ _ _ _ _ HX2.out).mono ?_); rintro e w' ⟨rfl, rfl⟩)
    rw [hok]
    clear hok
    go_wp2_with fail
    ((with_reducible refine (inRange key _).mono ?_); rintro e w' ⟨rfl, rfl⟩)
    rw [hg]
    clear hg
    go_wp2
    go_ret
    exact HP.out

theorem signL_on {xs : List Int} {key : Int} : signL xs key 1 = onL xs key := by
  unfold signL onL
  apply List.ext_getElem (by simp)
  intro i h1 h2
  simp only [List.getElem_mapIdx, sgn]
  omega
theorem signL_off {xs : List Int} {key : Int} : signL xs key (-1) = offL xs key := by
  unfold signL offL
  apply List.ext_getElem (by simp)
  intro i h1 h2
  simp only [List.getElem_mapIdx, sgn]
  omega

set_option maxRecDepth 20000 in
theorem withOn (lo hi : Nat) (A : Option Addr) (n c : Nat) (xs : List Int) (key : Int) (w : World) (hx : Ints lo hi w A n c xs) :
    Calls Try.prog 102 #[.slice A n c, .int .i64 key, .int .i64 1] w (NewIntsT w (onF xs key)) := by
  cases hok : okL xs
  · rw [onF_no1 hok]; exact withBad lo hi A n c xs key 1 w hx (.inl hok)
  · cases hg : inG key
    · rw [onF_no2 hg]; exact withBad lo hi A n c xs key 1 w hx (.inr hg)
    · rw [onF_yes hok hg, ← signL_on]
      have hk := inG_iff.1 hg
      exact withOk lo hi A n c xs key 1 w hx hok hk.1 hk.2 (by omega) (by omega)
set_option maxRecDepth 20000 in
theorem withOff (lo hi : Nat) (A : Option Addr) (n c : Nat) (xs : List Int) (key : Int) (w : World) (hx : Ints lo hi w A n c xs) :
    Calls Try.prog 102 #[.slice A n c, .int .i64 key, .int .i64 (-1)] w (NewIntsT w (offF xs key)) := by
  cases hok : okL xs
  · rw [offF_no1 hok]; exact withBad lo hi A n c xs key (-1) w hx (.inl hok)
  · cases hg : inG key
    · rw [offF_no2 hg]; exact withBad lo hi A n c xs key (-1) w hx (.inr hg)
    · rw [offF_yes hok hg, ← signL_off]
      have hk := inG_iff.1 hg
      exact withOk lo hi A n c xs key (-1) w hx hok hk.1 hk.2 (by omega) (by omega)


set_option maxRecDepth 20000 in
theorem MaskOffT (lo hi : Nat) (A : Option Addr) (n c : Nat) (xs : List Int) (key : Int) (w : World) (hx : Ints lo hi w A n c xs) :
    Calls Try.prog 88 #[.slice A n c, .int .i64 key] w (NewIntsT w (offF xs key)) := by
  have HX := Lib.hid hx
  clear hx
  go_enter Try.func88, Try.ntmps88
  go_wp2_with fail
  ((with_reducible refine (withOff _ _ _ _ _ _ key w HX.out).mono ?_); rintro e w1 ⟨A1, rfl, ho, hb⟩)
  have HP : Hid (NewIntsT w (offF xs key) (.returned (.slice A1 (offF xs key).length (offF xs key).length)) w1) := ⟨A1, rfl, ho, hb⟩
  clear ho hb
  go_wp2
  go_ret
  exact HP.out
set_option maxRecDepth 20000 in
theorem MaskOff (lo hi : Nat) (A : Option Addr) (n c : Nat) (xs : List Int) (key : Int) (w : World) (hx : Ints lo hi w A n c xs) :
    Calls Try.prog 88 #[.slice A n c, .int .i64 key] w (NewInts w (offF xs key)) := (MaskOffT lo hi A n c xs key w hx).mono fun _ _ h => h.new_


end Im2
end Go.Proofs.Ytnjcpbkpcmemeac
