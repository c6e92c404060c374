/-
  Contracts of the program's chapter 4: the body of a letter as an array, the letter of a body.
-/
import Derived.Test.YtdejnbbfdbafnaaIm3
import Derived.Test.YtdejnbbfdbafnaaLm
import Derived.Test.YtdejnbbfdbafnaaIla
import Derived.BigQuiet
import Derived.Laws.CopyOwn
import Derived.Laws.ResultCell
import Derived.Deep.MidRow
namespace Go.Proofs.Ytdejnbbfdbafnaa
open Go.RowKit
namespace Im4
open Il Gm Mm Tm Lm Im2 Im3

def vals (l : List Int) : List Value := l.map (Value.int .i64)
theorem sizeInt : (Try.prog.info? 3).map (·.size) = some 1 := by kernel_rfl
theorem underInts : Try.prog.underlying 23 = some (.slice 3) := by kernel_rfl
/-- A block that holds a list, as a slice of the whole of it. -/
theorem own_block {w : World} {b : Nat} {l : List Int} {t : TypeId} (h : w.heap[b]? = some (.cells (vals l).toArray t (0, 0))) (hl : l.length ≤ maxLen) :
    Il.Own b w.heap.size w (some ⟨b, 0, none⟩) l.length l.length l := by
  have hlt := (Array.getElem?_eq_some_iff.1 h).1
  refine ⟨⟨rfl, Nat.le_refl _, hl, fun _ => ⟨b, 0, rfl, Nat.le_refl _, hlt, hlt, fun j hj => ?_⟩⟩, fun b' off' _ e j _ => ?_⟩
  · rw [cell_of_row _ _ _ _ _ _ h]
    simp [vals, List.getElem?_eq_getElem hj]
  · simp only [Option.some.injEq, Addr.mk.injEq, and_true] at e
    obtain ⟨rfl, rfl⟩ := e
    simp [World.frozen?, h]

/-- The array that bodyOf returns. -/
def bodyV (xs : List Int) : List Int := bif packOk xs then packL xs else [0, 0, 0, 0, 0, 0]
def BodyB (xs : List Int) (w : World) (e : Ending) (w' : World) : Prop :=
  e = .returned (.tuple #[.agg (vals (bodyV xs)).toArray, .bool (packOk xs)]) ∧ Below w.heap.size w w'

theorem bodyB_no {xs : List Int} {w w' : World} (hp : packOk xs = false) (hb : Below w.heap.size w w') :
    BodyB xs w (.returned (.tuple #[.agg (vals [0, 0, 0, 0, 0, 0]).toArray, .bool false])) w' := by
  unfold BodyB bodyV; rw [hp]; exact ⟨rfl, hb⟩
theorem bodyB_yes {xs : List Int} {w w' : World} (hp : packOk xs = true) (hb : Below w.heap.size w w') :
    BodyB xs w (.returned (.tuple #[.agg (vals (packL xs)).toArray, .bool true])) w' := by
  unfold BodyB bodyV; rw [hp]; exact ⟨rfl, hb⟩
/-- The row behind the copy of a letter: the length, the letter, zeros. -/
theorem splice_body {xs : List Int} {n : Nat} (hl : xs.length = n) (h4 : n ≤ 4) : splice (vals [(n : Int), 0, 0, 0, 0, 0]) 1 (vals xs) = vals (headL xs ++ [0]) := by
  subst hl
  match xs, h4 with
  | [], _ => rfl
  | [_], _ => rfl
  | [_, _], _ => rfl
  | [_, _, _], _ => rfl
  | [_, _, _, _], _ => rfl
  | _ :: _ :: _ :: _ :: _ :: _, h => simp at h

set_option maxRecDepth 20000 in
theorem bodyOf (lo hi : Nat) (A : Option Addr) (n c : Nat) (xs : List Int) (w : World) (hx : Ints lo hi w A n c xs) :
    Calls Try.prog 65 #[.slice A n c] w (BodyB xs w) := by
  have HL := Lib.hid hx.1
  have hb0 : Below w.heap.size w (w.alloc (.cells #[.int .i64 0, .int .i64 0, .int .i64 0, .int .i64 0, .int .i64 0, .int .i64 0] 75)) := (Below.refl _ w).alloc (Nat.le_refl _) _
  have HX1 := Lib.hid ((ints_hi hx).below hb0 (Nat.le_refl _))
  by_cases h4 : 4 < n
  · have hp : packOk xs = false := by
      cases h : packOk xs
      · rfl
      · have := (packOk_iff.1 h).2; rw [hx.1] at this; omega
    have HF := Lib.hid (bodyB_no hp hb0)
    clear hx hp hb0 HX1
    go_enter Try.func65, Try.ntmps65
    go_wp2
    refine bodyPost_ret (v := .tuple #[.agg (vals [0, 0, 0, 0, 0, 0]).toArray, .bool false]) ?_ rfl HF.out
    rw [results_cell_tmp rfl]
    go_simp
    simp [vals]
  · cases hok : okL xs
    · have hp : packOk xs = false := by simp [packOk, hok]
      have HF := Lib.hid (bodyB_no hp hb0)
      clear hx hp hb0
      go_enter Try.func65, Try.ntmps65
      go_wp2_with fail
      ((with_reducible refine (listValid _ _ _ _ _ _ _ HX1.out).mono ?_); rintro e w' ⟨rfl, rfl⟩)
      rw [hok]
      clear hok
      go_wp2
      refine bodyPost_ret (v := .tuple #[.agg (vals [0, 0, 0, 0, 0, 0]).toArray, .bool false]) ?_ rfl HF.out
      rw [results_cell_tmp rfl]
      go_simp
      simp [vals]
    · have hp : packOk xs = true := packOk_iff.2 ⟨hok, by rw [hx.1]; omega⟩
      have HP := Lib.hid hp
      have hn4 : n ≤ 4 := by omega
      clear hx hp hb0 h4
      go_enter Try.func65, Try.ntmps65
      go_wp2_with fail
      ((with_reducible refine (listValid _ _ _ _ _ _ _ HX1.out).mono ?_); rintro e w' ⟨rfl, rfl⟩)
      rw [hok]
      clear hok
      go_wp2_with (with_reducible refine wpList_copy_splice rfl _ _ _ _ rfl 3 underInts sizeInt _ _ _ _ _ _ rfl rfl (w.heap.size + 1) 1 (vals [(n : Int), 0, 0, 0, 0, 0]) 75 ?hg (vals xs) ?hn ?hpos ?hfit ?h1 (w.heap.size + 1) (w.alloc (.cells #[.int .i64 0, .int .i64 0, .int .i64 0, .int .i64 0, .int .i64 0, .int .i64 0] 75)) ?hb ?hBg ?h)
      case hg => simpa [vals] using heap_alloc_new (w.alloc (.cells #[.int .i64 0, .int .i64 0, .int .i64 0, .int .i64 0, .int .i64 0, .int .i64 0] 75)) (.cells (vals [(n : Int), 0, 0, 0, 0, 0]).toArray 75)
      case hn => simp only [vals, List.length_map, HL.out]; exact (Nat.min_eq_left (by omega)).symm
      case hpos =>
        intro hpos
        have hn0 : 0 < n := by rw [← HL.out]; simpa [vals] using hpos
        obtain ⟨b, off, e, _, hb, hz, hc⟩ := HX1.out.2.2.2 hn0
        refine ⟨⟨b, off, none⟩, e, fun j v hv => ?_⟩
        have hj : j < n := by
          have := (List.getElem?_eq_some_iff.1 hv).1
          simpa [vals, HL.out] using this
        rw [Addr.add_mid, World.cell?_alloc_lt _ _ _ hz, hc j hj]
        simp only [vals, List.getElem?_map, Option.map_eq_some_iff] at hv
        obtain ⟨y, hy, rfl⟩ := hv
        rw [List.getD_eq_getElem?_getD, hy]; rfl
      case hfit => simp only [vals, List.length_map, HL.out, List.length_cons, List.length_nil]; omega
      case h1 => intro v hv; obtain ⟨y, _, rfl⟩ := List.mem_map.1 hv; rfl
      case hb => exact (Below.refl _ _).alloc (by simp) _
      case hBg => exact Nat.le_refl _
      case h =>
      intro w1 hg1 hB1
      have hg2 := hg1.out
      rw [splice_body HL.out hn4] at hg2
      obtain ⟨h0, h1, h2, h3, h4, hh⟩ : ∃ h0 h1 h2 h3 h4, headL xs = [h0, h1, h2, h3, h4] := by
        have := headL_len (xs := xs) (by rw [HL.out]; exact hn4)
        match headL xs, this with
        | [h0, h1, h2, h3, h4], _ => exact ⟨_, _, _, _, _, rfl⟩
      have HH := Lib.hid hh
      rw [hh] at hg2
      have HG := Lib.hid hg2
      have HB := Lib.hid hB1
      have hlt := (Array.getElem?_eq_some_iff.1 hg2).1
      have HI : Hid (Ints w.heap.size w1.heap.size w1 (some ⟨w.heap.size + 1, 0, none⟩) 5 6 (headL xs)) := by
        refine ⟨by rw [HH.out]; rfl, by omega, by simp [maxLen], fun _ => ⟨_, 0, rfl, by omega, hlt, hlt, fun j hj => ?_⟩⟩
        rw [cell_of_row _ _ _ _ _ _ HG.out, HH.out]
        obtain rfl | rfl | rfl | rfl | rfl : j = 0 ∨ j = 1 ∨ j = 2 ∨ j = 3 ∨ j = 4 := by omega
        all_goals simp [vals]
      have HT := Lib.hid (tagF_yes (key := 1) (xs := headL xs) (by decide) (headL_ok HP.out))
      clear hg1 hg2 hB1 hh
      go_wp2_with fail
      ((with_reducible refine (TagOf _ _ _ _ _ (headL xs) 1 _ HI.out).mono ?_); rintro e w2 ⟨rfl, hW⟩)
      rw [HT.out]
      have k := fun j => cell_of_row w2 (w.heap.size + 1) j _ _ _ ((hW.block _ hlt).trans HG.out)
      have hz := (HB.out.block w.heap.size (by omega)).trans (heap_alloc_new w _)
      have hzl : w.heap.size < w1.heap.size := by omega
      have kz := fun j => cell_of_row w2 w.heap.size j _ _ _ ((hW.block _ hzl).trans hz)
      have f1 : ∀ j, w2.frozen? ⟨w.heap.size + 1, j, none⟩ = false := fun j => by simp [World.frozen?, (hW.block _ hlt).trans HG.out]
      have f0 : ∀ j, w2.frozen? ⟨w.heap.size, j, none⟩ = false := fun j => by simp [World.frozen?, (hW.block _ hzl).trans hz]
      have c0 := k 0
      have c1 := k 1
      have c2 := k 2
      have c3 := k 3
      have c4 := k 4
      have c5 := k 5
      have d0 := kz 0
      have d1 := kz 1
      have d2 := kz 2
      have d3 := kz 3
      have d4 := kz 4
      have d5 := kz 5
      simp [vals] at c0 c1 c2 c3 c4 c5 d0 d1 d2 d3 d4 d5
      have HW := Lib.hid hW
      clear k kz hz hW
      have HK : Hid (vals (packL xs) = [.int .i64 h0, .int .i64 h1, .int .i64 h2, .int .i64 h3, .int .i64 h4, .int .i64 (tagL 1 (headL xs))]) := show _ = _ by unfold packL; rw [HH.out]; rfl
      generalize tagL 1 (headL xs) = tg at HT HK ⊢
      go_wp2
      refine bodyPost_ret (v := .tuple #[.agg (vals (packL xs)).toArray, .bool true]) ?_ rfl (bodyB_yes HP.out ?_)
      · rw [results_cell_tmp rfl, HK.out]
        go_simp
      · have q0 : Below w.heap.size w (w.alloc (.cells #[.int .i64 0, .int .i64 0, .int .i64 0, .int .i64 0, .int .i64 0, .int .i64 0] 75)) := (Below.refl _ w).alloc (Nat.le_refl _) _
        have q1 := (q0.trans (HB.out.mono (by omega))).trans (HW.out.mono (by omega))
        exact ((((((q1.setCell (by simp) _).setCell (by simp) _).setCell (by simp) _).setCell (by simp) _).setCell (by simp) _).setCell (by simp) _).setCell (by simp) _

theorem six {xs : List Int} (h : xs.length = 6) : ∃ a0 a1 a2 a3 a4 a5, xs = [a0, a1, a2, a3, a4, a5] := by
  match xs, h with
  | [a0, a1, a2, a3, a4, a5], _ => exact ⟨_, _, _, _, _, _, rfl⟩
theorem bodyV_len (xs : List Int) : (bodyV xs).length = 6 := by
  unfold bodyV
  cases h : packOk xs
  · rfl
  · exact packL_len (packOk_iff.1 h).2
theorem bodyV_yes {xs : List Int} (h : packOk xs = true) : bodyV xs = packL xs := by simp [bodyV, h]

set_option maxRecDepth 20000 in
theorem LetterPack (lo hi : Nat) (A : Option Addr) (n c : Nat) (xs : List Int) (w : World) (hx : Ints lo hi w A n c xs) :
    Calls Try.prog 22 #[.slice A n c] w (PairB (packF xs) (packOk xs) w) := by
  have HX := Lib.hid hx
  clear hx
  obtain ⟨a0, a1, a2, a3, a4, a5, hv⟩ := six (bodyV_len xs)
  have HV := Lib.hid hv
  have HA : Hid ((vals (bodyV xs)).toArray = #[.int .i64 a0, .int .i64 a1, .int .i64 a2, .int .i64 a3, .int .i64 a4, .int .i64 a5]) := show _ = _ by rw [HV.out]; rfl
  clear hv
  go_enter Try.func22, Try.ntmps22
  go_wp2_with fail
  ((with_reducible refine (bodyOf _ _ _ _ _ _ _ HX.out).mono ?_); rintro e w1 ⟨rfl, hW⟩)
  rw [HA.out]
  have HW := Lib.hid hW
  clear hW
  cases hp : packOk xs
  · have HP := Lib.hid hp
    clear hp
    go_wp2
    go_ret2
    rw [packF_no HP.out, HP.out]
    have hb1 := HW.out.alloc HW.out.size (.cells #[.int .i64 a0, .int .i64 a1, .int .i64 a2, .int .i64 a3, .int .i64 a4, .int .i64 a5] 75)
    exact ⟨_, _, rfl, Own.nil_ (Nat.zero_le _), hb1.alloc hb1.size _⟩
  · have HP := Lib.hid hp
    clear hp
    go_wp2
    go_ret2
    have e1 : packF xs = [a0, a1, a2, a3, a4, a5] := by rw [packF_yes HP.out, ← bodyV_yes HP.out, HV.out]
    rw [e1, HP.out]
    have hb1 := HW.out.alloc HW.out.size (.cells (vals [a0, a1, a2, a3, a4, a5]).toArray 75)
    exact ⟨_, _, rfl, (own_block (l := [a0, a1, a2, a3, a4, a5]) (heap_alloc_new w1 _) (by simp [maxLen])).mono HW.out.size (Nat.le_refl _), hb1⟩

theorem below_drewN_ (w : World) (d : Nat) {B : Nat} : Below B w (w.drewN d) := ⟨rfl, rfl, rfl, Nat.le_refl _, fun _ _ => rfl⟩
theorem underBody : Try.prog.underlying 75 = some (.array 6 3) := by kernel_rfl
/-- A slice of six numbers as a pointer to an array. -/
theorem runArrayAt (a : Addr) (c : Nat) (w : World) : (Instr.arrayAt 75 (.slice (some a) 6 c)).run Try.prog w = .ok (.pointer (some a)) w := by
  simp [Instr.arrayAt, run_underlying underBody]

theorem underInt : Try.prog.underlying 3 = some (.int .i64) := by kernel_rfl
theorem guardBody : Try.prog.eqGuardType Try.prog.depth 75 = false := by kernel_rfl
theorem runPart (xs : Array Value) (k : Nat) (x : Int) (w : World) (h : xs[k]? = some (.int .i64 x)) : (part 3 xs k).run Try.prog w = .ok (.int .i64 x) w := by
  have := Try.isAgg3 w
  simp [part, this, h]
/-- Two arrays of six numbers are compared. -/
theorem equal6 (d : Nat) (v0 v1 v2 v3 v4 v5 a0 a1 a2 a3 a4 a5 : Int) (w : World) :
    (Op.equalIn (d + 1 + 1) 75 (.agg #[.int .i64 v0, .int .i64 v1, .int .i64 v2, .int .i64 v3, .int .i64 v4, .int .i64 v5]) (.agg #[.int .i64 a0, .int .i64 a1, .int .i64 a2, .int .i64 a3, .int .i64 a4, .int .i64 a5])).run Try.prog w =
      .ok (decide ([v0, v1, v2, v3, v4, v5] = [a0, a1, a2, a3, a4, a5])) w := by
  have hs := Try.sizeOf3 w
  have hi : ∀ (x y : Int) (w : World), (Op.equalIn (d + 1) 3 (.int .i64 x) (.int .i64 y)).run Try.prog w = .ok (x == y) w := fun x y w => run_equalIn_int w d _ .i64 .i64 x y underInt
  rw [Op.equalIn]
  simp only [Sem.run_bind, run_underlying underBody, Result.andThen_ok, hs]
  simp [List.range', runPart, hi]
  (repeat' split) <;> simp_all

set_option maxRecDepth 20000 in
theorem LetterOpen (lo hi : Nat) (A : Option Addr) (n c : Nat) (xs : List Int) (w : World) (hx : Ints lo hi w A n c xs) :
    Calls Try.prog 19 #[.slice A n c] w (PairB (openF xs) (openOk xs) w) := by
  have HX := Lib.hid hx
  have hno : ∀ (v : World) (b : Nat), openOk xs = false → Below w.heap.size w v → PairB (openF xs) (openOk xs) w (.returned (.tuple #[.slice (some ⟨b, 0, none⟩) 0 0, .bool false])) v := fun v b h hb => by
    rw [openF_no h, h]
    exact ⟨_, _, rfl, Own.nil_ (Nat.zero_le _), hb⟩
  have HNO := Lib.hid hno
  clear hno
  by_cases h6 : n = 6
  · subst h6
    obtain ⟨a0, a1, a2, a3, a4, a5, rfl⟩ := six hx.1
    obtain ⟨b, off, rfl, _, hb1, hb2, hc⟩ := hx.2.2.2 (by omega)
    have hcap := hx.2.1
    have k0 := hc 0 (by omega)
    simp only [List.getD_cons_zero, Nat.add_zero] at k0
    by_cases hn : a0 < 0
    · have HF := Lib.hid (openOk_bad (b := [a0, a1, a2, a3, a4, a5]) (by intro h; have := (okL_iff.1 h.1).1 a0 (by simp); omega))
      clear hx hc
      go_enter Try.func19, Try.ntmps19
      go_wp2
      go_ret2
      exact HNO.out _ _ HF.out ((Below.refl _ _).alloc (Nat.le_refl _) _)
    · by_cases h4 : 4 < a0
      · have HF := Lib.hid (openOk_bad (b := [a0, a1, a2, a3, a4, a5]) (by intro h; have := h.2.2.2.1; simp at this; omega))
        clear hx hc
        go_enter Try.func19, Try.ntmps19
        go_wp2
        go_ret2
        exact HNO.out _ _ HF.out ((Below.refl _ _).alloc (Nat.le_refl _) _)
      · obtain ⟨z, rfl⟩ := Int.eq_ofNat_of_zero_le (a := a0) (by omega)
        have hz4 : z ≤ 4 := by omega
        have HS := Lib.hid (hx.sub_ (k := 1) (m := z) (by omega))
        obtain ⟨ys, hys⟩ : ∃ ys, (([(z : Int), a1, a2, a3, a4, a5] : List Int).drop 1).take z = ys := ⟨_, rfl⟩
        have HY := Lib.hid hys
        rw [hys] at HS
        have hc1 : ¬ c = 1 := by omega
        clear hx hys hn h4
        obtain ⟨v0, v1, v2, v3, v4, v5, hv⟩ := six (bodyV_len ys)
        have HV := Lib.hid hv
        have HA : Hid ((vals (bodyV ys)).toArray = #[.int .i64 v0, .int .i64 v1, .int .i64 v2, .int .i64 v3, .int .i64 v4, .int .i64 v5]) := show _ = _ by rw [HV.out]; rfl
        clear hv
        go_enter Try.func19, Try.ntmps19
        go_wp2_with fail
        ((with_reducible refine (bodyOf _ _ _ _ _ _ _ HS.out).mono ?_); rintro e w1 ⟨rfl, hW⟩)
        rw [HA.out]
        have HW := Lib.hid hW
        have hI := HX.out.below hW (Nat.le_refl _)
        clear hW
        obtain ⟨b', off', e', _, _, hbw, hc'⟩ := hI.2.2.2 (by omega)
        simp only [Option.some.injEq, Addr.mk.injEq, and_true] at e'
        obtain ⟨rfl, rfl⟩ := e'
        have kk := fun j hj => (World.cell?_of_block (Below.heap_alloc w1 (.cells #[.int .i64 v0, .int .i64 v1, .int .i64 v2, .int .i64 v3, .int .i64 v4, .int .i64 v5] 75) b hbw)).trans (hc' j hj)
        have j0 := kk 0 (by omega)
        have j1 := kk 1 (by omega)
        have j2 := kk 2 (by omega)
        have j3 := kk 3 (by omega)
        have j4 := kk 4 (by omega)
        have j5 := kk 5 (by omega)
        simp only [List.getD_cons_zero, List.getD_cons_succ, Nat.add_zero] at j0 j1 j2 j3 j4 j5
        clear kk hc' hc hI
        cases hp : packOk ys
        · have HF := Lib.hid (openOk_bad (b := [(z : Int), a1, a2, a3, a4, a5]) (by
            intro h
            have h1 := pack_open (openOk_iff.2 h)
            rw [openF_yes (openOk_iff.2 h)] at h1
            simp only [List.getD_cons_zero, Int.toNat_natCast] at h1
            rw [HY.out, hp] at h1
            exact absurd h1.1 (by simp)))
          clear hp
          go_wp2_with fail
          go_quiet (fail)
          go_wp2
          go_ret2
          have hb3 := HW.out.alloc HW.out.size (.cells #[.int .i64 v0, .int .i64 v1, .int .i64 v2, .int .i64 v3, .int .i64 v4, .int .i64 v5] 75)
          exact HNO.out _ _ HF.out ((hb3.trans (below_drewN_ _ nq)).alloc hb3.size _)
        · have HP := Lib.hid hp
          clear hp
          have hap := runArrayAt ⟨b, off, none⟩ c
          have hgd := guardBody
          have heq := equal6 9998 v0 v1 v2 v3 v4 v5 z a1 a2 a3 a4 a5
          by_cases he : [v0, v1, v2, v3, v4, v5] = [(z : Int), a1, a2, a3, a4, a5]
          · have hyes : openOk [(z : Int), a1, a2, a3, a4, a5] = true := by rw [← he, ← HV.out, bodyV_yes HP.out]; exact openOk_pack HP.out
            have hfin : openF [(z : Int), a1, a2, a3, a4, a5] = ys := by rw [← he, ← HV.out, bodyV_yes HP.out]; exact openF_pack HP.out
            have HYES := Lib.hid hyes
            have HFIN := Lib.hid hfin
            rw [decide_eq_true he] at heq
            have hlen : ys.length ≤ 4 := (packOk_iff.1 HP.out).2
            have HLY := Lib.hid hlen
            clear hyes hfin he hlen
            go_wp2_with fail
            go_quiet (fail)
            obtain ⟨W, hW⟩ : ∃ W, (w1.alloc (.cells #[.int .i64 v0, .int .i64 v1, .int .i64 v2, .int .i64 v3, .int .i64 v4, .int .i64 v5] 75)).drewN nq = W := ⟨_, rfl⟩
            have hWW : Below w.heap.size w W := by rw [← hW]; exact (HW.out.alloc HW.out.size _).trans (below_drewN_ _ nq)
            have HA2 := Lib.hid (acc_new W)
            have IX := Lib.hid (((HS.out.below hWW (Nat.le_refl _))).below (B := W.heap.size) (w' := W.alloc (.cells #[] 3)) ((Below.refl _ _).alloc (Nat.le_refl _) _) (Nat.le_refl _))
            rw [hW]
            clear hW j0 j1 j2 j3 j4 j5 heq hap hgd
            have HWW := Lib.hid hWW
            clear hWW
            go_wp2_with (at_builtin; refine wpList_appAny _ _ _ _ HA2.out _ _ _ _ _ _ IX.out (by simp; omega) _ _ rfl rfl rfl rfl ?_; intro v3 w3 hN _)
            rw [List.nil_append] at hN
            have HPP : Hid (PairB (openF [(z : Int), a1, a2, a3, a4, a5]) (openOk [(z : Int), a1, a2, a3, a4, a5]) w (.returned (.tuple #[v3, .bool true])) w3) := by
              rw [HFIN.out, HYES.out]
              obtain ⟨A1, c1, rfl, ho⟩ := own_of hN.1
              exact ⟨A1, c1, rfl, ho.mono HWW.out.size (Nat.le_refl _), HWW.out.trans ((Il.Acc.below hN).mono HWW.out.size)⟩
            clear hN
            go_wp2
            go_ret2
            exact HPP.out
          · have HF := Lib.hid (openOk_bad (b := [(z : Int), a1, a2, a3, a4, a5]) (by
              intro h
              have h1 := pack_open (openOk_iff.2 h)
              rw [openF_yes (openOk_iff.2 h)] at h1
              simp only [List.getD_cons_zero, Int.toNat_natCast] at h1
              rw [HY.out, packF_yes HP.out, ← bodyV_yes HP.out, HV.out] at h1
              exact he h1.2))
            rw [decide_eq_false he] at heq
            clear he
            go_wp2_with fail
            go_quiet (fail)
            go_wp2
            go_ret2
            have hb3 := HW.out.alloc HW.out.size (.cells #[.int .i64 v0, .int .i64 v1, .int .i64 v2, .int .i64 v3, .int .i64 v4, .int .i64 v5] 75)
            exact HNO.out _ _ HF.out ((hb3.trans (below_drewN_ _ nq)).alloc hb3.size _)
  · have HF := Lib.hid (openOk_bad (b := xs) (by intro h; exact h6 (hx.1.symm.trans h.2.1)))
    have e6 : ((n : Int) != 6) = true := by simp; omega
    clear hx h6
    go_enter Try.func19, Try.ntmps19
    go_wp2
    go_ret2
    exact HNO.out _ _ HF.out ((Below.refl _ _).alloc (Nat.le_refl _) _)

end Im4
end Go.Proofs.Ytdejnbbfdbafnaa
