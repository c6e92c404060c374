/-
  Contract of the program's TicketSpend.
-/
import Derived.Test.YtecdoibdpimlaaaDoorIs12
import Derived.Test.YtecdoibdpimlaaaDoorSp12b
import Derived.Test.YtecdoibdpimlaaaDoorIn8
import Derived.Shelf.Slices.Empties
import Derived.Shelf.Slices.SearchI
import Derived.Lib.SliceRun
import Derived.Deep.RegionHeld3
namespace Go.Proofs.YtecdoibdpimlaaaDoor
open Go.RowKit Go.Shelf
namespace Im12
open Il Sl Fo Gm Cm Cs Tk Sp12 Im8

/-- A clone that can be appended to. -/
def CloD (xs : List Int) (w : World) (e : Ending) (w' : World) : Prop :=
  ∃ A c g, e = .returned (.slice A xs.length c) ∧ Dest 3 1 g w' (.slice A xs.length c) xs.length (xs.map (Value.int .i64)) ∧ (∀ k, g = some k → w.heap.size ≤ k) ∧ Below w.heap.size w w'
theorem cloD_of {xs : List Int} {w w' : World} {v : Value} {g : Option Nat} (hd : Dest 3 1 g w' v xs.length (xs.map (Value.int .i64))) (hg : ∀ k, g = some k → w.heap.size ≤ k) (hb : Below w.heap.size w w') : CloD xs w (.returned v) w' := by
  have h0 := hd
  obtain ⟨A', c', b, rfl, ho, hk⟩ := dest_ints hd
  exact ⟨_, _, g, rfl, h0, hg, hb⟩
set_option maxRecDepth 20000 in
theorem cloneD (lo hi : Nat) (A : Option Addr) (c : Nat) (xs : List Int) (w : World) (hx : Ints lo hi w A xs.length c xs) (hn : xs.length ≤ 2000000) :
    Calls Tryd.prog 22 #[.slice A xs.length c] w (CloD xs w) := by
  cases A with
  | none =>
    have hz : xs.length = 0 := by
      rcases Nat.eq_zero_or_pos xs.length with h | h
      · exact h
      · obtain ⟨b, off, e, _⟩ := hx.2.2.2 h
        cases e
    have hxs : xs = [] := List.eq_nil_of_length_eq_zero hz
    subst hxs
    have HP : Hid (CloD [] w (.returned (.slice none 0 0)) w) := cloD_of (.inl ⟨rfl, rfl, rfl, none, rfl⟩) (fun k h => by cases h) (Below.refl _ _)
    clear hx hz hn
    have hnil : ∀ w, (binOp .eql 23 (.slice none 0 c) (.slice none 0 0)).run Tryd.prog w = .ok (.bool true) w := fun w => Lib.run_eql_slice_nil w _ _ _ _ _ _ _ Tryd.underlying23
    go_enter Tryd.func22, Tryd.ntmps22
    go_wp2
    go_ret
    exact HP.out
  | some ad =>
    have hal : Below w.heap.size w (w.alloc (.cells #[] 3)) := (Below.refl _ _).alloc (Nat.le_refl _) _
    have HD : Hid (Dest 3 1 (some w.heap.size) (w.alloc (.cells #[] 3)) (.slice (some ⟨w.heap.size, 0, none⟩) 0 0) 0 []) := .inr ⟨_, rfl, accV_new w _ _⟩
    have HR := Lib.hid (ints_row (hx.below hal (Nat.le_refl _)))
    have HAL := Lib.hid hal
    clear hx hal
    have hnil : ∀ w, (binOp .eql 23 (.slice (some ad) xs.length c) (.slice none 0 0)).run Tryd.prog w = .ok (.bool false) w := fun w => Lib.run_eql_slice_nil w _ _ _ _ _ _ _ Tryd.underlying23
    go_enter Tryd.func22, Tryd.ntmps22
    go_wp2_with (at_builtin; refine wpList_appDL elInt _ _ _ _ _ HD.out _ _ _ _ _ _ HR.out (ints_one_cell _) (by omega) _ _ rfl rfl rfl rfl ?_; intro g5 v5 w5 hd5 hg5 hgr5; rw [List.nil_append, Nat.zero_add] at hd5)
    have HP : Hid (CloD xs w (.returned v5) w5) := by
      refine cloD_of hd5 (fun k e => ?_) (HAL.out.grown hgr5 (by simp) fun k e => by simp at e; omega)
      rcases hg5 with q | ⟨k', q, hk⟩
      · rw [q] at e; simp at e; omega
      · rw [q] at e; simp at e hk; omega
    clear hd5 hg5 hgr5
    go_wp2
    go_ret
    exact HP.out
theorem search (A : Option Addr) (c lo hi : Nat) (xs : List Int) (key : Int) (w : World) (hx : Ints lo hi w A xs.length c xs) (hs : spB xs = true) (hl : xs.length ≤ 1000) :
    Calls Tryd.prog 37 #[.slice A xs.length c, .int .i64 key] w fun e w' => e = .returned (.tuple #[.int .i64 (place xs key : Nat), .bool (hasK xs key)]) ∧ ∃ q, w' = w.drewN q := by
  rcases Nat.eq_zero_or_pos xs.length with h0 | h0
  · have hxs : xs = [] := List.eq_nil_of_length_eq_zero h0
    subst hxs
    refine (Any.slices_BinarySearch_int_empty Shl.sea A c key w).mono ?_
    rintro e w' ⟨rfl, rfl⟩
    exact ⟨rfl, 0, rfl⟩
  · obtain ⟨b, off, rfl, _, _, _, hc⟩ := hx.2.2.2 h0
    have hpw : (xs.take xs.length).Pairwise (· ≤ ·) := by
      rw [List.take_length]
      exact (pw_of hs).imp fun h => by omega
    refine (Any.slices_BinarySearch_int Shl.sea b off xs.length c xs key w (Nat.le_refl _) (by omega) hc hpw).mono ?_
    rintro e w' ⟨rfl, q, rfl⟩
    rw [List.take_length, countP_place key (pw_of hs)]
    exact ⟨rfl, q, rfl⟩
/-- Where a ticket belongs, or why it is refused. -/
def PlcP (a0 a1 a2 : Addr) (xs : List Int) (p s g : Int) (w : World) (e : Ending) (w' : World) : Prop :=
  ∃ (q : Nat) (v : Value), e = .returned (.tuple #[.int .i64 (q : Nat), v]) ∧ Rsn a0 a1 a2 v (!goB xs p s g) ∧ (goB xs p s g = true → q = place xs s) ∧ Below w.heap.size w w'
set_option maxRecDepth 20000 in
set_option maxHeartbeats 1000000 in
theorem placeOf (a0 a1 a2 : Addr) (xs : List Int) (p s g : Int) (A : Option Addr) (c lo hi : Nat) (w : World) (hx : Ints lo hi w A xs.length c xs) (hok : spOk xs = true) (hs : Snt w a0 a1 a2) :
    Calls Tryd.prog 20 #[.agg #[.int .i64 s, .int .i64 g], .int .i64 p, .slice A xs.length c] w (PlcP a0 a1 a2 xs p s g w) := by
  have hc1 := hx.2.2.1
  have hc2 := hx.2.1
  unfold maxLen at hc1
  have h20 := sp_len hok
  have hbx := tick_box w s g 25
  obtain ⟨w0, hW, z0, z1, zf, hB⟩ := hbx
  have hw0 : w.heap.size < w0.heap.size := by rw [← hW]; simp
  have HX := Lib.hid (hx.below hB (Nat.le_refl _))
  have HS := Lib.hid (hs.below hB (Nat.le_refl _))
  have HB := Lib.hid hB
  have HSO := Lib.hid (spB_of hok)
  have HOK := Lib.hid hok
  clear hB hx hs hok
  go_enter Tryd.func20, Tryd.ntmps20
  go_wp2_with fail
  ((with_reducible refine (TicketCheck p s g _).mono ?_); rintro e w1 ⟨rfl, hb1⟩)
  clear hW
  replace HX := Lib.hid (HX.out.below hb1 (Nat.le_refl _))
  replace HS := Lib.hid (HS.out.below hb1 (Nat.le_refl _))
  replace HB := Lib.hid (HB.out.trans (hb1.mono HB.out.size))
  replace z0 := (hb1.cell (p := ⟨w.heap.size, 0, none⟩) hw0).trans z0
  clear hb1 z1 zf
  cases hch : chkF p s g
  · have HN := Lib.hid (go_no1 (xs := xs) hch)
    have c0 := HS.out.c0
    go_wp2
    go_quiet (fail)
    go_wp2
    go_ret2
    exact ⟨0, _, rfl, by rw [HN.out]; exact .rejected, fun h => (by rw [HN.out] at h; cases h), below_dr HB.out⟩
  go_wp2_with fail
  ((with_reducible refine (search _ _ _ _ xs s _ HX.out HSO.out (by omega)).mono ?_); rintro e w2 ⟨rfl, d2, rfl⟩)
  replace HX : Hid (Ints lo hi (w1.drewN d2) A xs.length c xs) := HX.out
  replace HS : Hid (Snt (w1.drewN d2) a0 a1 a2) := ⟨HS.out.c0, HS.out.c1, HS.out.c2, HS.out.b0, HS.out.b1, HS.out.b2, HS.out.n01, HS.out.n02, HS.out.n12⟩
  replace HB := Lib.hid (below_dr (d := d2) HB.out)
  clear z0
  generalize w1.drewN d2 = w3 at *
  cases hhk : hasK xs s
  case «true» =>
    have HN := Lib.hid (go_no2 (p := p) (g := g) hhk)
    have c1 := HS.out.c1
    go_wp2
    go_quiet (fail)
    go_wp2
    go_ret2
    exact ⟨0, _, rfl, by rw [HN.out]; exact .spent, fun h => (by rw [HN.out] at h; cases h), below_dr HB.out⟩
  by_cases hfull : xs.length = 20
  · have HN := Lib.hid (go_no3 (p := p) (s := s) (g := g) (by omega : ¬ xs.length < 20))
    have hf' : ((xs.length : Int) == 20) = true := by simp; omega
    have c2 := HS.out.c2
    go_wp2
    go_quiet (fail)
    go_wp2
    go_ret2
    exact ⟨0, _, rfl, by rw [HN.out]; exact .full, fun h => (by rw [HN.out] at h; cases h), below_dr HB.out⟩
  have hf' : ((xs.length : Int) == 20) = false := by simp; omega
  have HY : Hid (goB xs p s g = true) := goB_iff.2 ⟨HOK.out, hch, hhk, by omega⟩
  go_wp2
  go_ret2
  exact ⟨place xs s, _, rfl, by rw [HY.out]; exact .no, fun _ => rfl, HB.out⟩
/-- A clone and a row with the new number: what slices.Insert is handed. -/
structure Rdy (w W : World) (s : Int) (xs : List Int) (A : Option Addr) (c : Nat) (g : Option Nat) (vb : Nat) : Prop where
  kd : KdO W ⟨xs, A, c, g⟩
  bk : Blk W vb #[.int .i64 s] 3
  ne : vb ∉ g.toList
  bel : Below w.heap.size w W
  own : ∀ k, g = some k → w.heap.size < k
  box : W.cell? ⟨w.heap.size, 0, none⟩ = some (.int .i64 s)
theorem below_drw {K : Nat} {w w' : World} (h : Below K w.drew w') : Below K w w' := ⟨h.os, h.tape, h.output, h.size, h.block⟩
theorem rdy1 {w w3 w5 : World} {s : Int} {xs : List Int} {A : Option Addr} {c : Nat} {g : Option Nat} (hB : Below w.heap.size w w3) (hw : w.heap.size < w3.heap.size) (z0 : w3.cell? ⟨w.heap.size, 0, none⟩ = some (.int .i64 s))
    (hd : Dest 3 1 g w5 (.slice A xs.length c) xs.length (xs.map (Value.int .i64))) (hg : ∀ k, g = some k → w3.drew.heap.size ≤ k) (hb : Below w3.drew.heap.size w3.drew w5) : Rdy w (w5.alloc (.cells #[.int .i64 s] 3)) s xs A c g w5.heap.size := by
  have hb' : Below w3.heap.size w3 w5 := below_drw hb
  have hs := hb'.size
  have hal : Below w5.heap.size w5 (w5.alloc (.cells #[.int .i64 s] 3)) := (Below.refl _ _).alloc (Nat.le_refl _) _
  have hB5 := hB.trans (hb'.mono hB.size)
  exact ⟨dest_alloc hd _, blk_new _ _ _, fun h => by have := dest_lt hd w5.heap.size (by simpa using h); omega, hB5.trans (hal.mono hB5.size), fun k e => by have := hg k e; have : w3.drew.heap.size = w3.heap.size := rfl; omega,
    (hal.cell (p := ⟨w.heap.size, 0, none⟩) (by show w.heap.size < w5.heap.size; omega)).trans ((hb'.cell (p := ⟨w.heap.size, 0, none⟩) hw).trans z0)⟩
theorem rdy2 {w w3 w5 : World} {s : Int} {xs : List Int} {A : Option Addr} {c : Nat} {g : Option Nat} (hB : Below w.heap.size w w3) (hw : w.heap.size < w3.heap.size) (z0 : w3.cell? ⟨w.heap.size, 0, none⟩ = some (.int .i64 s))
    (hd : Dest 3 1 g w5 (.slice A xs.length c) xs.length (xs.map (Value.int .i64))) (hg : ∀ k, g = some k → (w3.alloc (.cells #[.int .i64 s] 3)).drew.heap.size ≤ k) (hb : Below (w3.alloc (.cells #[.int .i64 s] 3)).drew.heap.size (w3.alloc (.cells #[.int .i64 s] 3)).drew w5) : Rdy w w5 s xs A c g w3.heap.size := by
  have hal : Below w3.heap.size w3 (w3.alloc (.cells #[.int .i64 s] 3)) := (Below.refl _ _).alloc (Nat.le_refl _) _
  have hsz : (w3.alloc (.cells #[.int .i64 s] 3)).drew.heap.size = w3.heap.size + 1 := by show (w3.alloc (.cells #[.int .i64 s] 3)).heap.size = _; simp
  have hb' : Below (w3.alloc (.cells #[.int .i64 s] 3)).heap.size (w3.alloc (.cells #[.int .i64 s] 3)) w5 := below_drw hb
  have hsz' : (w3.alloc (.cells #[.int .i64 s] 3)).heap.size = w3.heap.size + 1 := by simp
  have hk : Blk (w3.alloc (.cells #[.int .i64 s] 3)) w3.heap.size #[.int .i64 s] 3 := blk_new _ _ _
  have hB4 := hB.trans (hal.mono hB.size)
  refine ⟨hd, hk.below hb' (Nat.le_refl _), fun h => ?_, hB4.trans (hb'.mono hB4.size), fun k e => ?_, ?_⟩
  · have := hg w3.heap.size (by simpa using h)
    omega
  · have := hg k e
    omega
  · exact (hb'.cell (p := ⟨w.heap.size, 0, none⟩) (by show w.heap.size < (w3.alloc (.cells #[.int .i64 s] 3)).heap.size; omega)).trans ((hal.cell (p := ⟨w.heap.size, 0, none⟩) hw).trans z0)
theorem rdy_fin {w W w8 : World} {s : Int} {xs : List Int} {A : Option Addr} {c : Nat} {g : Option Nat} {vb : Nat} {A8 : Option Addr} {c8 : Nat} {g8 : Option Nat} (h : Rdy w W s xs A c g vb)
    (hk8 : KdO w8 ⟨insK xs s, A8, c8, g8⟩) (hg8 : g8 = g ∨ ∃ k, g8 = some k ∧ W.heap.size ≤ k) (hkp : KeptG [g.toList] W w8) :
    LstB (insK xs s) true w (.returned (.tuple #[.slice A8 (insK xs s).length c8, .bool true])) w8 ∧ w8.cell? ⟨w.heap.size, 0, none⟩ = some (.int .i64 s) := by
  have hs := h.bel.size
  have hz := World.block_lt_of_cell? W ⟨w.heap.size, 0, none⟩ h.box
  have hwi : Within (w.heap.size + 1) W.heap.size [g.toList] := fun f hf x hx => by
    obtain rfl := List.mem_singleton.1 hf
    have e : g = some x := by simpa using hx
    exact ⟨h.own x e, dest_lt h.kd x e⟩
  refine ⟨lst_of hk8 (fun k e' => ?_) (below_keptG h.bel hkp hwi hs (by omega)), ?_⟩
  · have e : g8 = some k := e'
    rcases hg8 with e2 | ⟨k2, e2, h2⟩
    · have := h.own k (by rw [← e2]; exact e)
      omega
    · rw [e] at e2; cases e2; omega
  · exact (World.cell?_of_block (a := ⟨w.heap.size, 0, none⟩) (hkp.block w.heap.size hz fun f hf hm => by have := hwi f hf _ hm; omega)).trans h.box
theorem insertK (s : Kd) (key : Int) (vb : Nat) (w : World) (h : KdO w s) (hb : Blk w vb #[.int .i64 key] 3) (hne : vb ∉ s.g.toList) (hl : s.xs.length ≤ 1000) :
    Calls Tryd.prog 23 #[.slice s.A s.xs.length s.c, .int .i64 (place s.xs key : Nat), .slice (some ⟨vb, 0, none⟩) 1 1] w (InsP s (insK s.xs key) w) := by
  rw [insK_is]
  exact insert s key _ vb w h hb hne (place_le _ _) hl
set_option maxRecDepth 20000 in
set_option maxHeartbeats 2000000 in
theorem TicketSpend (a0 a1 a2 : Addr) (xs : List Int) (p s g : Int) (A : Option Addr) (c lo hi : Nat) (w : World) (hx : Ints lo hi w A xs.length c xs) (hs : Snt w a0 a1 a2) :
    Calls Tryd.prog 10 #[.slice A xs.length c, .int .i64 p, .agg #[.int .i64 s, .int .i64 g]] w (LstB (spF xs p s g) (goB xs p s g) w) := by
  have hbx := tick_box w s g 25
  obtain ⟨w0, hW, z0, z1, zf, hB⟩ := hbx
  have hw0 : w.heap.size < w0.heap.size := by rw [← hW]; simp
  have HX := Lib.hid (hx.below hB (Nat.le_refl _))
  have HS := Lib.hid (hs.below hB (Nat.le_refl _))
  have HB := Lib.hid hB
  clear hB hx hs
  go_enter Tryd.func10, Tryd.ntmps10
  go_wp2_with fail
  ((with_reducible refine (spentValid _ _ _ _ _ xs _ HX.out).mono ?_); rintro e w1 ⟨rfl, rfl⟩)
  clear hW
  cases hok : spOk xs
  · have HV := Lib.hid (spF_bad (p := p) (s := s) (g := g) hok)
    have HP : Hid (LstB [] false w (.returned (.tuple #[.slice (some ⟨w0.heap.size, 0, none⟩) 0 0, .bool false])) (w0.alloc (.cells #[] 3))) :=
      lst_of (ys := []) (.inr ⟨_, rfl, accV_new w0 _ _⟩) (fun k e => by cases e; omega) (HB.out.alloc HB.out.size _)
    clear hok
    go_wp2
    go_ret2
    rw [HV.out.1, HV.out.2]
    exact HP.out
  have HOK := Lib.hid hok
  have h20 := sp_len hok
  clear hok
  go_wp2_with fail
  ((with_reducible refine (placeOf a0 a1 a2 xs p s g _ _ _ _ _ HX.out HOK.out HS.out).mono ?_); rintro e w2 ⟨q, v, rfl, hr, hq, hb2⟩)
  replace HX := Lib.hid (HX.out.below hb2 (Nat.le_refl _))
  replace HS := Lib.hid (HS.out.below hb2 (Nat.le_refl _))
  replace HB := Lib.hid (HB.out.trans (hb2.mono HB.out.size))
  replace z0 := (hb2.cell (p := ⟨w.heap.size, 0, none⟩) hw0).trans z0
  have hw2 : w.heap.size < w2.heap.size := by have := hb2.size; omega
  clear hb2 z1 zf hw0
  go_wp2_with fail
  ((with_reducible refine (refused a0 a1 a2 v _ _ hr HS.out).mono ?_); rintro e w3 ⟨rfl, rfl⟩)
  cases hgo : goB xs p s g
  · have HV := Lib.hid (spF_no HOK.out hgo)
    have HG := Lib.hid hgo
    go_wp2_with fail
    ((with_reducible refine (cloneD _ _ _ _ xs _ HX.out (by omega)).mono ?_); rintro e w4 ⟨A4, c4, g4, rfl, hd4, hg4, hb4⟩)
    have HP : Hid (LstB xs false w (.returned (.tuple #[.slice A4 xs.length c4, .bool false])) w4) := lst_of hd4 (fun k e => by have := hg4 k e; omega) (HB.out.trans (hb4.mono HB.out.size))
    clear hd4 hg4 hb4 hgo hr hq
    go_wp2
    go_ret2
    rw [HV.out, HG.out]
    exact HP.out
  have HV := Lib.hid (spF_yes hgo)
  have HG := Lib.hid hgo
  obtain rfl := hq hgo
  clear hr hq hgo
  have HZ := Lib.hid z0
  have I0 : Hid (Ints lo hi w2.drew A xs.length c xs) := HX.out
  have IK : Hid (Ints lo hi (w2.alloc (.cells #[.int .i64 s] 3)).drew A xs.length c xs) := HX.out.below (below_dr (d := 1) ((Below.refl w2.heap.size w2).alloc (Nat.le_refl _) _)) (Nat.le_refl _)
  have S0 : Hid (w2.drew.cell? ⟨w.heap.size, 0, none⟩ = some (.int .i64 s)) := z0
  have SK : Hid ((w2.alloc (.cells #[.int .i64 s] 3)).drew.cell? ⟨w.heap.size, 0, none⟩ = some (.int .i64 s)) := (Below.cell ((Below.refl w2.heap.size w2).alloc (Nat.le_refl _) (.cells #[.int .i64 s] 3)) (p := ⟨w.heap.size, 0, none⟩) hw2).trans z0
  have hn2 : xs.length ≤ 2000000 := by omega
  have hn3 : xs.length ≤ 1000 := by omega
  go_upto_region 6 with (fail)
  go_region_held3 (fun w' => w'.cell? ⟨w.heap.size, 0, none⟩ = some (.int .i64 s))
    (first | with_reducible exact S0.out | with_reducible exact SK.out | with_reducible exact s5 | with_reducible exact s5k | with_reducible exact s8 | fail)
    (first
    | (go_at_call 22; (with_reducible refine (cloneD _ _ _ _ xs _ I0.out hn2).mono ?_); rintro e w5 ⟨A5, c5, g5, rfl, hd5, hg5, hb5⟩; have hR := rdy1 HB.out hw2 HZ.out hd5 hg5 hb5; have s5k := hR.box; have s5 : w5.cell? ⟨w.heap.size, 0, none⟩ = some (.int .i64 s) := ((below_drw hb5).cell (p := ⟨w.heap.size, 0, none⟩) hw2).trans HZ.out)
    | (go_at_call 22; (with_reducible refine (cloneD _ _ _ _ xs _ IK.out hn2).mono ?_); rintro e w5 ⟨A5, c5, g5, rfl, hd5, hg5, hb5⟩; have hR := rdy2 HB.out hw2 HZ.out hd5 hg5 hb5; have s5 := hR.box)
    | (go_at_call 23; (with_reducible refine (insertK ⟨xs, A5, c5, g5⟩ s _ _ hR.kd hR.bk hR.ne hn3).mono ?_); rintro e w8 ⟨A8, c8, g8, rfl, hk8, hg8, hkp⟩; have hF := rdy_fin hR hk8 hg8 hkp; have s8 := hF.2)
    | fail)
  all_goals
    have HP := Lib.hid hF.1
    clear hF hR hk8 hg8 hkp s8
    go_wp2
    go_ret2
    rw [HV.out, HG.out]
    exact HP.out
end Im12
end Go.Proofs.YtecdoibdpimlaaaDoor
