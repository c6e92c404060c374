/-
  Contract of the model's TicketSpend.
-/
import Derived.Test.YtecdoibdpimlaabDoorSp12
import Derived.Deep.RegionHeld3
import Derived.Deep.Cut
namespace Go.Proofs.YtecdoibdpimlaabDoor
open Go.RowKit
namespace Sp12
open Il Sl Gm Cm Cs Tk

/-- A list of the caller's own and a word are returned. -/
def LstB (ys : List Int) (b : Bool) (w : World) (e : Ending) (w' : World) : Prop :=
  ∃ A c, e = .returned (.tuple #[.slice A ys.length c, .bool b]) ∧ Il.Own w.heap.size w'.heap.size w' A ys.length c ys ∧ Below w.heap.size w w'
theorem own_of {g : Option Nat} {K : Nat} {w' : World} {v : Value} {ys : List Int} (h : Dest 3 1 g w' v ys.length (ys.map (Value.int .i64))) (hg : ∀ k, g = some k → K ≤ k) : ∃ A c, v = .slice A ys.length c ∧ Il.Own K w'.heap.size w' A ys.length c ys := by
  have h0 := h
  obtain ⟨A, c, b, rfl, ho, hk⟩ := dest_ints h
  refine ⟨A, c, rfl, ?_⟩
  rcases Nat.eq_zero_or_pos ys.length with hz | hp
  · exact ⟨⟨ho.1.1, ho.1.2.1, ho.1.2.2.1, fun h => absurd h (by omega)⟩, fun _ _ h => absurd h (by omega)⟩
  · obtain ⟨k, e, hlt⟩ := Sg.dest_blk h0 hp
    have h1 := hk k e
    have h2 := hg k e
    exact ho.mono (by omega) (by omega)
theorem lst_of {g : Option Nat} {w w' : World} {v : Value} {ys : List Int} {b : Bool} (h : Dest 3 1 g w' v ys.length (ys.map (Value.int .i64))) (hg : ∀ k, g = some k → w.heap.size ≤ k) (hb : Below w.heap.size w w') : LstB ys b w (.returned (.tuple #[v, .bool b])) w' := by
  obtain ⟨A, c, rfl, ho⟩ := own_of h hg
  exact ⟨A, c, rfl, ho, hb⟩
theorem ins_lst {xs : List Int} {key : Int} {q : Nat} {g : Option Nat} {w w' : World} {v : Value} (hp : place xs key = q) (hq : q ≤ xs.length) (h : Dest 3 1 g w' v (q + 1 + (xs.length - q)) ((xs.take q).map (Value.int .i64) ++ [Value.int .i64 key] ++ (xs.drop q).map (Value.int .i64))) (hg : ∀ y, g = some y → w.heap.size ≤ y) (hb : Below w.heap.size w w') : LstB (insK xs key) true w (.returned (.tuple #[v, .bool true])) w' := by
  have e1 : (xs.take q).map (Value.int .i64) ++ [Value.int .i64 key] ++ (xs.drop q).map (Value.int .i64) = (insK xs key).map (Value.int .i64) := by rw [insK_is, hp]; simp
  have e2 : q + 1 + (xs.length - q) = (insK xs key).length := by rw [insK_len]; omega
  rw [e1, e2] at h
  exact lst_of h hg hb
theorem ins_lst0 {key : Int} {g : Option Nat} {w w' : World} {v : Value} (h : Dest 3 1 g w' v (0 + 1 + 0) ([] ++ [Value.int .i64 key] ++ [])) (hg : ∀ y, g = some y → w.heap.size ≤ y) (hb : Below w.heap.size w w') : LstB (insK [] key) true w (.returned (.tuple #[v, .bool true])) w' := ins_lst (xs := []) (q := 0) rfl (Nat.le_refl _) h hg hb
theorem no_val : ∀ u ∈ ([] : List Value), u.oneCell' = true := fun u hu => by simp at hu
theorem key_dest (w : World) (key : Int) : Dest 3 1 (some (w.heap.size + 1)) ((w.alloc (.cells #[.int .i64 key] 3)).alloc (.cells #[] 3)).drew (.slice (some ⟨w.heap.size + 1, 0, none⟩) 0 0) 0 [] := by
  have h := accV_new (w.alloc (.cells #[.int .i64 key] 3)) 3 1
  rw [World.size_alloc] at h
  exact .inr ⟨_, rfl, h.block rfl⟩
theorem key_row1 (w : World) (key : Int) : Row (w.heap.size + 1) (w.heap.size + 1 + 1) ((w.alloc (.cells #[] 3)).alloc (.cells #[.int .i64 key] 3)).drew (some ⟨w.heap.size + 1, 0, none⟩) 1 1 1 [.int .i64 key] := by
  have h := row_lit (w.alloc (.cells #[] 3)) 3 [.int .i64 key] (sz := 1) rfl
  rw [World.size_alloc] at h
  exact h
theorem key_row2 (w : World) (key : Int) : Row w.heap.size (w.heap.size + 1) ((w.alloc (.cells #[.int .i64 key] 3)).alloc (.cells #[] 3)).drew (some ⟨w.heap.size, 0, none⟩) 1 1 1 [.int .i64 key] := by
  have h := row_lit w 3 [.int .i64 key] (sz := 1) rfl
  have hb : Below (w.heap.size + 1) (w.alloc (.cells #[.int .i64 key] 3)) ((w.alloc (.cells #[.int .i64 key] 3)).alloc (.cells #[] 3)) := (Below.refl _ _).alloc (by simp) _
  exact h.below (below_dr hb (d := 1)) (Nat.le_of_eq (by simp))
theorem row_grown {lo hi n c sz r : Nat} {w w' : World} {A : Option Addr} {vs : List Value} (h : Row lo hi w A n c sz vs) (hg : w.grownBy w' (some r)) (hr : r < lo ∨ hi ≤ r) : Row lo hi w' A n c sz vs := h.keep hg.size fun b h1 h2 h3 => hg.block b h3 (by simp; omega)
theorem new_ge {g g' : Option Nat} {w : World} {K : Nat} (hg : g' = g ∨ ∃ k, g' = some k ∧ w.heap.size ≤ k) (h : ∀ y, g = some y → K ≤ y) (hK : K ≤ w.heap.size) : ∀ y, g' = some y → K ≤ y := fun y hy => by
  rcases hg with e | ⟨k, e, hk⟩
  · exact h y (by rw [← e]; exact hy)
  · rw [e] at hy; cases hy; omega
theorem dest_alloc {g : Option Nat} {w : World} {v : Value} {n : Nat} {vs : List Value} (h : Dest 3 1 g w v n vs) (o : Obj) : Dest 3 1 g (w.alloc o) v n vs := dest_keep h fun k e => ((Below.refl w.heap.size w).alloc (Nat.le_refl _) o).block k (dest_lt h k e)
theorem one_key (key : Int) : ∀ u ∈ [Value.int .i64 key], u.oneCell' = true := fun u hu => by simp at hu; subst hu; rfl
theorem ints_topS {lo hi lo' n c : Nat} {w : World} {A : Option Addr} {xs : List Int} (h : Ints lo hi w A n c xs) (hl : lo' ≤ lo) : Ints lo' w.heap.size w A n c xs :=
  ⟨h.1, h.2.1, h.2.2.1, fun hn => by
    obtain ⟨b, off, e, h1, _, hz, hc⟩ := h.2.2.2 hn
    exact ⟨b, off, e, by omega, hz, hz, hc⟩⟩
/-- What stands while a place is looked for. -/
def SpR (w wr : World) (lo hi : Nat) (A : Option Addr) (n c : Nat) (xs : List Int) (s : Int) : Prop :=
  Below w.heap.size w wr ∧ Ints lo hi wr A n c xs ∧ wr.cell? ⟨w.heap.size, 0, none⟩ = some (.int .i64 s) ∧ w.heap.size < wr.heap.size
theorem SpR.dr {w wr : World} {lo hi : Nat} {A : Option Addr} {n c : Nat} {xs : List Int} {s : Int} (h : SpR w wr lo hi A n c xs s) (d : Nat) : SpR w (wr.drewN d) lo hi A n c xs s := ⟨below_dr h.1, h.2.1, h.2.2.1, h.2.2.2⟩
set_option maxRecDepth 20000 in
set_option maxHeartbeats 2000000 in
theorem TicketSpend (xs : List Int) (p s g : Int) (A : Option Addr) (c lo hi : Nat) (w : World) (hx : Ints lo hi w A xs.length c xs) :
    Calls Tryd.prog 4 #[.slice A xs.length c, .int .i64 p, .agg #[.int .i64 s, .int .i64 g]] w (LstB (spF xs p s g) (goB xs p s g) w) := by
  have hc1 := hx.2.2.1
  have hc2 := hx.2.1
  unfold maxLen at hc1
  have hbx := tick_box w s g 28
  obtain ⟨w0, hW, z0, z1, zf, hB⟩ := hbx
  have hw0 : w.heap.size < w0.heap.size := by rw [← hW]; simp
  have HX := Lib.hid (hx.below hB (Nat.le_refl _))
  have HB := Lib.hid hB
  clear hB hx
  go_enter Tryd.func4, Tryd.ntmps4
  go_wp2_with fail
  ((with_reducible refine (l31Spent _ _ _ _ _ xs _ HX.out).mono ?_); rintro e w1 ⟨rfl, d1, rfl⟩)
  clear hW
  have Z0 := Lib.hid z0
  have Z1 := Lib.hid z1
  replace HB := Lib.hid (below_dr (d := d1) HB.out)
  replace HX : Hid (Ints lo hi (w0.drewN d1) A xs.length c xs) := HX.out
  have hw1 : w.heap.size < (w0.drewN d1).heap.size := hw0
  replace Z0 : Hid ((w0.drewN d1).cell? ⟨w.heap.size, 0, none⟩ = some (.int .i64 s)) := Z0.out
  replace Z1 : Hid ((w0.drewN d1).cell? ⟨w.heap.size, 1, none⟩ = some (.int .i64 g)) := Z1.out
  clear z0 z1 zf hw0
  generalize w0.drewN d1 = w1 at *
  cases hok : spOk xs
  · have HV := Lib.hid (spF_bad (p := p) (s := s) (g := g) hok)
    have HP : Hid (LstB [] false w (.returned (.tuple #[.slice (some ⟨w1.heap.size, 0, none⟩) 0 0, .bool false])) (w1.alloc (.cells #[] 3))) :=
      lst_of (ys := []) (.inr ⟨_, rfl, accV_new w1 _ _⟩) (fun k e => by cases e; omega) (HB.out.alloc HB.out.size _)
    clear hok
    go_wp2
    go_ret2
    rw [HV.out.1, HV.out.2]
    exact HP.out
  have HOK := Lib.hid hok
  have h20 := sp_len hok
  clear hok
  have hal : Below w1.heap.size w1 (w1.alloc (.cells #[] 3)) := (Below.refl _ _).alloc (Nat.le_refl _) _
  have HD : Hid (Dest 3 1 (some w1.heap.size) (w1.alloc (.cells #[] 3)) (.slice (some ⟨w1.heap.size, 0, none⟩) 0 0) 0 []) := .inr ⟨_, rfl, accV_new w1 _ _⟩
  have HR := Lib.hid (ints_row (HX.out.below hal (Nat.le_refl _)))
  have HAL := Lib.hid hal
  clear hal
  go_wp2_with (at_builtin; refine wpList_appDL elInt _ _ _ _ _ HD.out _ _ _ _ _ _ HR.out (ints_one_cell _) (by omega) _ _ rfl rfl rfl rfl ?_; intro g5 v5 w5 hd5 hg5 hgr5; rw [List.nil_append, Nat.zero_add] at hd5; have hb5 : Below w1.heap.size w1 w5 := HAL.out.grown hgr5 (by simp) (fun k e => by simp at e; omega); have z0 := (hb5.cell (p := ⟨w.heap.size, 0, none⟩) hw1).trans Z0.out; have z1 := (hb5.cell (p := ⟨w.heap.size, 1, none⟩) hw1).trans Z1.out)
  have hge5 : ∀ k, g5 = some k → w.heap.size ≤ k := fun k e => by
    rcases hg5 with q | ⟨k', q, hk⟩
    · rw [q] at e; simp at e; omega
    · rw [q] at e; simp at e hk; omega
  have HD5 := Lib.hid hd5
  have HGE := Lib.hid hge5
  have hw5 := hb5.size
  replace HB := Lib.hid (HB.out.trans (hb5.mono HB.out.size))
  replace HX := Lib.hid (HX.out.below hb5 (Nat.le_refl _))
  replace Z0 := Lib.hid ((hb5.cell (p := ⟨w.heap.size, 0, none⟩) hw1).trans Z0.out)
  replace Z1 := Lib.hid ((hb5.cell (p := ⟨w.heap.size, 1, none⟩) hw1).trans Z1.out)
  have hw5' : w.heap.size < w5.heap.size := by omega
  clear hd5 hg5 hgr5 hb5 hge5 HD HR HAL hw5 hw1
  go_wp2_with fail
  ((with_reducible refine (TicketCheck p s g _).mono ?_); rintro e w6 ⟨rfl, hb6⟩)
  have HP : Hid (LstB xs false w (.returned (.tuple #[v5, .bool false])) w6) := lst_of (dest_keep HD5.out fun k e => hb6.block k (dest_lt HD5.out k e)) HGE.out (HB.out.trans (hb6.mono HB.out.size))
  replace HB := Lib.hid (HB.out.trans (hb6.mono HB.out.size))
  replace HX := Lib.hid (HX.out.below hb6 (Nat.le_refl _))
  have IB := Lib.hid HX.out
  clear z0 z1
  have z0 := (hb6.cell (p := ⟨w.heap.size, 0, none⟩) hw5').trans Z0.out
  have hw6 : w.heap.size < w6.heap.size := by have := hb6.size; omega
  clear hb6 HD5 HGE Z0 Z1 HX
  cases hch : chkF p s g
  · have HN := Lib.hid (go_no1 (xs := xs) hch)
    have HV := Lib.hid (spF_no HOK.out HN.out)
    go_wp2
    go_ret2
    rw [HV.out, HN.out]
    exact HP.out
  cases hhk : hasK xs s
  case «true» =>
    have HN := Lib.hid (go_no2 (p := p) (g := g) hhk)
    have HV := Lib.hid (spF_no HOK.out HN.out)
    go_wp2_with fail
    ((with_reducible refine (Sg.l1Has _ _ _ _ _ xs s _ IB.out).mono ?_); rintro e w7 ⟨rfl, rfl⟩)
    rw [hhk]
    go_wp2
    go_ret2
    rw [HV.out, HN.out]
    exact HP.out
  by_cases hfull : 20 ≤ xs.length
  · have HN := Lib.hid (go_no3 (p := p) (s := s) (g := g) (by omega : ¬ xs.length < 20))
    have HV := Lib.hid (spF_no HOK.out HN.out)
    have hf' : decide (20 ≤ (xs.length : Int)) = true := by simp; omega
    go_wp2_with fail
    ((with_reducible refine (Sg.l1Has _ _ _ _ _ xs s _ IB.out).mono ?_); rintro e w7 ⟨rfl, rfl⟩)
    rw [hhk]
    go_wp2
    go_ret2
    rw [HV.out, HN.out]
    exact HP.out
  have hf' : decide (20 ≤ (xs.length : Int)) = false := by simp; omega
  have HY : Hid (goB xs p s g = true) := goB_iff.2 ⟨HOK.out, hch, hhk, by omega⟩
  have HV : Hid (spF xs p s g = insK xs s ∧ goB xs p s g = true) := ⟨spF_yes HY.out, HY.out⟩
  have HSO := Lib.hid (spB_of HOK.out)
  go_wp2_with fail
  ((with_reducible refine (Sg.l1Has _ _ _ _ _ xs s _ IB.out).mono ?_); rintro e w7 ⟨rfl, rfl⟩)
  rw [hhk]
  clear hhk hch HP HY HOK
  have HR0 : Hid (SpR w w6 lo hi A xs.length c xs s) := ⟨HB.out, IB.out, z0, hw6⟩
  clear HB IB z0 hw6
  go_wp2
  go_loopw [9] (fun i wr => ∃ q : Nat, q ≤ xs.length ∧ i = .int .i64 (q : Nat) ∧ Hid (∀ i, i < q → xs.getD i 0 < s) ∧ Hid (SpR w wr lo hi A xs.length c xs s)) (fun i _ => xs.length - (intOf i).toNat)
  case atStart => exact ⟨0, Nat.zero_le _, rfl, fun i hi => absurd hi (by omega), HR0.out⟩
  case round =>
    obtain ⟨q, hq, rfl, hT, hR⟩ := hrel
    clear HR0
    have z0 := hR.out.2.2.1
    by_cases hgo : q < xs.length ∧ xs.getD q 0 < s
    · obtain ⟨hql, hqk⟩ := hgo
      obtain ⟨b2, off2, rfl, _, _, cq⟩ := hR.out.2.1.at_ hql
      have HN : Hid (∀ i, i < q + 1 → xs.getD i 0 < s) := at_succ hT.out hqk
      have hd1 : decide ((q : Int) < (xs.length : Int)) = true := by simp; omega
      generalize xs.getD q 0 = x at *
      have hd2 : decide (x < s) = true := by simpa using hqk
      clear hT
      go_wp2_with fail
      go_quiet (fail)
      have HR2 := Lib.hid (hR.out.dr nq)
      clear hR z0 cq
      generalize wr.drewN nq = wq at *
      go_wp2
      go_roundw
      case rel => exact ⟨q + 1, by omega, by go_num, HN.out, HR2.out⟩
      case measure => simp [intOf]; omega
    have HPL : Hid (place xs s = q) := pl_of HSO.out (isPl_of HSO.out hq hT.out fun h => by
      by_cases hk : xs.getD q 0 < s
      · exact absurd ⟨h, hk⟩ hgo
      · omega)
    clear hT
    by_cases hql : q < xs.length
    · obtain ⟨b2, off2, e2, _, _, cq⟩ := hR.out.2.1.at_ hql
      have hqk : ¬ xs.getD q 0 < s := fun h => hgo ⟨hql, h⟩
      have hd1 : decide ((q : Int) < (xs.length : Int)) = true := by simp; omega
      generalize xs.getD q 0 = x at *
      have hd2 : decide (x < s) = false := by simpa using hqk
      clear hgo hqk
      go_wp2_with fail
      go_quiet (fail)
      have HR2 := Lib.hid (hR.out.dr nq)
      clear hR z0 cq e2
      generalize wr.drewN nq = w6 at *
      obtain ⟨hB, hI, z0, hw6⟩ := HR2.out
      have HB := Lib.hid hB
      have IB := Lib.hid hI
      clear hB hI HR2
      go_upto_region 9 with (fail)
      obtain ⟨bB, oB, rfl, _, _, _⟩ := IB.out.at_ (k := 0) (by omega)
      have hqd : q ≤ c := by omega
      have hqn : (q : Int) ≤ (xs.length : Int) := by omega
      have HBW : Hid (∀ W', Below w6.heap.size w6 W' → W'.cell? ⟨w.heap.size, 0, none⟩ = some (.int .i64 s)) := fun W' hb => (hb.cell (p := ⟨w.heap.size, 0, none⟩) hw6).trans z0
      have HRT : Hid (∀ W', Below w6.heap.size w6 W' → Row 0 w6.heap.size W' (some ⟨bB, oB, none⟩) q c 1 ((xs.take q).map (Value.int .i64))) := fun W' hb => by
        have h := (ints_topS IB.out (Nat.zero_le lo)).below hb (Nat.le_refl _)
        have h2 := h.sub_ (k := 0) (m := q) (by omega)
        rw [Nat.add_zero, List.drop_zero] at h2
        exact ints_row h2
      have HRD : Hid (∀ W', Below w6.heap.size w6 W' → Row 0 w6.heap.size W' (if c = q then some ⟨bB, oB, none⟩ else some ⟨bB, oB + q, none⟩) (xs.length - q) (c - q) 1 ((xs.drop q).map (Value.int .i64))) := fun W' hb => by
        have h := (ints_topS IB.out (Nat.zero_le lo)).below hb (Nat.le_refl _)
        split
        · rename_i e
          have e2 : xs.length - q = 0 := by omega
          rw [e2, List.drop_eq_nil_of_le (by omega)]
          exact ints_row ⟨rfl, by omega, by unfold maxLen; omega, fun hn => absurd hn (by omega)⟩
        · have h2 := h.sub_ (k := q) (m := xs.length - q) (by omega)
          rw [List.take_of_length_le (by rw [List.length_drop]; exact Nat.le_refl _)] at h2
          exact ints_row h2
      have hbE : Below w6.heap.size w6 (w6.alloc (.cells #[] 3)) := (Below.refl _ _).alloc (Nat.le_refl _) _
      have hbK : Below w6.heap.size w6 (w6.alloc (.cells #[.int .i64 s] 3)) := (Below.refl _ _).alloc (Nat.le_refl _) _
      have hbEK := hbE.alloc hbE.size (.cells #[.int .i64 s] 3)
      have hbKE := hbK.alloc hbK.size (.cells #[] 3)
      have S0 := Lib.hid (HBW.out w6.drew (below_dr (Below.refl _ _) (d := 1)))
      have SE := Lib.hid (HBW.out (w6.alloc (.cells #[] 3)).drew (below_dr hbE (d := 1)))
      have SK := Lib.hid (HBW.out (w6.alloc (.cells #[.int .i64 s] 3)).drew (below_dr hbK (d := 1)))
      have SEK := Lib.hid (HBW.out ((w6.alloc (.cells #[] 3)).alloc (.cells #[.int .i64 s] 3)).drew (below_dr hbEK (d := 1)))
      have SKE := Lib.hid (HBW.out ((w6.alloc (.cells #[.int .i64 s] 3)).alloc (.cells #[] 3)).drew (below_dr hbKE (d := 1)))
      have BE : Hid (Below w6.heap.size w6 (w6.alloc (.cells #[] 3)).drew) := below_dr hbE (d := 1)
      have BEK : Hid (Below w6.heap.size w6 ((w6.alloc (.cells #[] 3)).alloc (.cells #[.int .i64 s] 3)).drew) := below_dr hbEK (d := 1)
      have BKE : Hid (Below w6.heap.size w6 ((w6.alloc (.cells #[.int .i64 s] 3)).alloc (.cells #[] 3)).drew) := below_dr hbKE (d := 1)
      have DE : Hid (Dest 3 1 (some w6.heap.size) (w6.alloc (.cells #[] 3)).drew (.slice (some ⟨w6.heap.size, 0, none⟩) 0 0) 0 []) := .inr ⟨_, rfl, accV_new w6.drew _ _⟩
      have DEK : Hid (Dest 3 1 (some w6.heap.size) ((w6.alloc (.cells #[] 3)).alloc (.cells #[.int .i64 s] 3)).drew (.slice (some ⟨w6.heap.size, 0, none⟩) 0 0) 0 []) := .inr ⟨_, rfl, (accV_new w6.drew _ _).alloc (.cells #[.int .i64 s] 3)⟩
      have DKE : Hid (Dest 3 1 (some (w6.heap.size + 1)) ((w6.alloc (.cells #[.int .i64 s] 3)).alloc (.cells #[] 3)).drew (.slice (some ⟨w6.heap.size + 1, 0, none⟩) 0 0) 0 []) := key_dest w6 s
      have REK : Hid (Row (w6.heap.size + 1) (w6.heap.size + 1 + 1) ((w6.alloc (.cells #[] 3)).alloc (.cells #[.int .i64 s] 3)).drew (some ⟨w6.heap.size + 1, 0, none⟩) 1 1 1 [.int .i64 s]) := key_row1 w6 s
      have RKE : Hid (Row w6.heap.size (w6.heap.size + 1) ((w6.alloc (.cells #[.int .i64 s] 3)).alloc (.cells #[] 3)).drew (some ⟨w6.heap.size, 0, none⟩) 1 1 1 [.int .i64 s]) := key_row2 w6 s
      have hqi : decide ((q : Int) < 0) = false := by simp
      clear hbE hbK hbEK hbKE
      go_region_held3 (fun w' => w'.cell? ⟨w.heap.size, 0, none⟩ = some (.int .i64 s))
        (first | with_reducible exact S0.out | with_reducible exact SE.out | with_reducible exact SK.out | with_reducible exact SEK.out | with_reducible exact SKE.out | with_reducible exact s6 | with_reducible exact s6k | with_reducible exact s7 | with_reducible exact s8 | fail)
        (first
          | (refine step_appD elInt _ _ _ _ _ DE.out _ _ _ _ _ _ (HRT.out _ BE.out) (ints_one_cell _) (by omega) (.tmp 48) (.tmp 51) rfl rfl (by go_simp) (by go_simp) ?_; intro g6 v6 w7 hd6 hg6 hgr6
             rw [List.nil_append, Nat.zero_add] at hd6
             have hge6 := new_ge (K := w6.heap.size) hg6 (fun y hy => by cases hy; exact Nat.le_refl _) BE.out.size
             have hb6 := BE.out.grown hgr6 BE.out.size (fun y hy => by simp at hy; omega)
             have s6 := HBW.out w7 hb6
             have s6k := HBW.out _ (hb6.alloc hb6.size (.cells #[.int .i64 s] 3)))
          | (refine step_appD elInt _ _ _ _ _ DEK.out _ _ _ _ _ _ (HRT.out _ BEK.out) (ints_one_cell _) (by omega) (.tmp 48) (.tmp 51) rfl rfl (by go_simp) (by go_simp) ?_; intro g6 v6 w7 hd6 hg6 hgr6
             rw [List.nil_append, Nat.zero_add] at hd6
             have hge6 := new_ge (K := w6.heap.size) hg6 (fun y hy => by cases hy; exact Nat.le_refl _) BEK.out.size
             have hb6 := BEK.out.grown hgr6 BEK.out.size (fun y hy => by simp at hy; omega)
             have hky := row_grown REK.out hgr6 (.inl (Nat.lt_succ_self _))
             have s6 := HBW.out w7 hb6)
          | (refine step_appD elInt _ _ _ _ _ DKE.out _ _ _ _ _ _ (HRT.out _ BKE.out) (ints_one_cell _) (by omega) (.tmp 48) (.tmp 51) rfl rfl (by go_simp) (by go_simp) ?_; intro g6 v6 w7 hd6 hg6 hgr6
             rw [List.nil_append, Nat.zero_add] at hd6
             have hge6 := new_ge (K := w6.heap.size) hg6 (fun y hy => by cases hy; exact Nat.le_succ _) BKE.out.size
             have hb6 := BKE.out.grown hgr6 BKE.out.size (fun y hy => by simp at hy; omega)
             have hky := row_grown RKE.out hgr6 (.inr (Nat.le_refl _))
             have s6 := HBW.out w7 hb6)
          | (refine step_appD elInt g6 _ v6 q _ (dest_alloc hd6 (.cells #[.int .i64 s] 3)) _ _ _ _ _ _ (row_lit w7 3 [.int .i64 s] (sz := 1) rfl) (one_key s) (by omega) (.tmp 52) (.tmp 55) rfl rfl (by go_simp) (by go_simp) ?_; intro g7 v7 w8 hd7 hg7 hgr7
             have hbz := hb6.alloc hb6.size (.cells #[.int .i64 s] 3)
             have hge7 := new_ge (K := w6.heap.size) hg7 hge6 hbz.size
             have hb7 := hbz.grown hgr7 hbz.size (fun y hy => hge6 y hy)
             have s7 := HBW.out w8 hb7)
          | (refine step_appD elInt g6 w7 v6 q _ hd6 _ _ _ _ _ _ hky (one_key s) (by omega) (.tmp 52) (.tmp 55) rfl rfl (by go_simp) (by go_simp) ?_; intro g7 v7 w8 hd7 hg7 hgr7
             have hge7 := new_ge (K := w6.heap.size) hg7 hge6 hb6.size
             have hb7 := hb6.grown hgr7 hb6.size (fun y hy => hge6 y hy)
             have s7 := HBW.out w8 hb7)
          | (refine step_appD elInt g7 w8 v7 (q + 1) _ hd7 _ _ _ _ _ _ (HRD.out w8 hb7) (ints_one_cell _) (by omega) (.tmp 56) (.tmp 59) rfl rfl (by go_simp) (by go_simp) ?_; intro g8 v8 w9 hd8 hg8 hgr8
             have hge8 := new_ge (K := w6.heap.size) hg8 hge7 hb7.size
             have hb8 := hb7.grown hgr8 hb7.size (fun y hy => hge7 y hy)
             have s8 := HBW.out w9 hb8)
          | fail)
      all_goals
        have HP := Lib.hid (ins_lst HPL.out hq hd8 (fun y hy => by have := hge8 y hy; omega) (HB.out.trans (hb8.mono HB.out.size)))
        go_wp2
        all_goals
          go_ret2
          rw [HV.out.1, HV.out.2]
          exact HP.out
    · have hd1 : decide ((q : Int) < (xs.length : Int)) = false := by simp; omega
      clear hgo
      go_wp2_with fail
      go_quiet (fail)
      have HR2 := Lib.hid (hR.out.dr nq)
      clear hR z0
      generalize wr.drewN nq = w6 at *
      obtain ⟨hB, hI, z0, hw6⟩ := HR2.out
      have HB := Lib.hid hB
      have IB := Lib.hid hI
      clear hB hI HR2
      rcases Nat.eq_zero_or_pos xs.length with hx0 | hx0
      · obtain rfl : xs = [] := List.eq_nil_of_length_eq_zero hx0
        obtain rfl : q = 0 := by simp at hq; omega
        clear hx0 hql
        rcases A with _ | ad
        · skip
          go_upto_region 9 with (fail)
          have HBW : Hid (∀ W', Below w6.heap.size w6 W' → W'.cell? ⟨w.heap.size, 0, none⟩ = some (.int .i64 s)) := fun W' hb => (hb.cell (p := ⟨w.heap.size, 0, none⟩) hw6).trans z0
          have HR0 : Hid (∀ (W' : World) (base : Option Addr), Row 0 w6.heap.size W' base 0 c 1 ([] : List Value)) := fun W' base => Row.nil_ (by unfold maxLen; omega)
          have hbE : Below w6.heap.size w6 (w6.alloc (.cells #[] 3)) := (Below.refl _ _).alloc (Nat.le_refl _) _
          have hbK : Below w6.heap.size w6 (w6.alloc (.cells #[.int .i64 s] 3)) := (Below.refl _ _).alloc (Nat.le_refl _) _
          have hbEK := hbE.alloc hbE.size (.cells #[.int .i64 s] 3)
          have hbKE := hbK.alloc hbK.size (.cells #[] 3)
          have S0 := Lib.hid (HBW.out w6.drew (below_dr (Below.refl _ _) (d := 1)))
          have SE := Lib.hid (HBW.out (w6.alloc (.cells #[] 3)).drew (below_dr hbE (d := 1)))
          have SK := Lib.hid (HBW.out (w6.alloc (.cells #[.int .i64 s] 3)).drew (below_dr hbK (d := 1)))
          have SEK := Lib.hid (HBW.out ((w6.alloc (.cells #[] 3)).alloc (.cells #[.int .i64 s] 3)).drew (below_dr hbEK (d := 1)))
          have SKE := Lib.hid (HBW.out ((w6.alloc (.cells #[.int .i64 s] 3)).alloc (.cells #[] 3)).drew (below_dr hbKE (d := 1)))
          have BE : Hid (Below w6.heap.size w6 (w6.alloc (.cells #[] 3)).drew) := below_dr hbE (d := 1)
          have BEK : Hid (Below w6.heap.size w6 ((w6.alloc (.cells #[] 3)).alloc (.cells #[.int .i64 s] 3)).drew) := below_dr hbEK (d := 1)
          have BKE : Hid (Below w6.heap.size w6 ((w6.alloc (.cells #[.int .i64 s] 3)).alloc (.cells #[] 3)).drew) := below_dr hbKE (d := 1)
          have DE : Hid (Dest 3 1 (some w6.heap.size) (w6.alloc (.cells #[] 3)).drew (.slice (some ⟨w6.heap.size, 0, none⟩) 0 0) 0 []) := .inr ⟨_, rfl, accV_new w6.drew _ _⟩
          have DEK : Hid (Dest 3 1 (some w6.heap.size) ((w6.alloc (.cells #[] 3)).alloc (.cells #[.int .i64 s] 3)).drew (.slice (some ⟨w6.heap.size, 0, none⟩) 0 0) 0 []) := .inr ⟨_, rfl, (accV_new w6.drew _ _).alloc (.cells #[.int .i64 s] 3)⟩
          have DKE : Hid (Dest 3 1 (some (w6.heap.size + 1)) ((w6.alloc (.cells #[.int .i64 s] 3)).alloc (.cells #[] 3)).drew (.slice (some ⟨w6.heap.size + 1, 0, none⟩) 0 0) 0 []) := key_dest w6 s
          have REK : Hid (Row (w6.heap.size + 1) (w6.heap.size + 1 + 1) ((w6.alloc (.cells #[] 3)).alloc (.cells #[.int .i64 s] 3)).drew (some ⟨w6.heap.size + 1, 0, none⟩) 1 1 1 [.int .i64 s]) := key_row1 w6 s
          have RKE : Hid (Row w6.heap.size (w6.heap.size + 1) ((w6.alloc (.cells #[.int .i64 s] 3)).alloc (.cells #[] 3)).drew (some ⟨w6.heap.size, 0, none⟩) 1 1 1 [.int .i64 s]) := key_row2 w6 s
          clear hbE hbK hbEK hbKE
          go_region_held3 (fun w' => w'.cell? ⟨w.heap.size, 0, none⟩ = some (.int .i64 s))
            (first | with_reducible exact S0.out | with_reducible exact SE.out | with_reducible exact SK.out | with_reducible exact SEK.out | with_reducible exact SKE.out | with_reducible exact s6 | with_reducible exact s6k | with_reducible exact s7 | with_reducible exact s8 | fail)
            (first
              | (refine step_appD elInt _ _ _ _ _ DEK.out _ _ _ _ _ _ REK.out (one_key s) (by omega) (.tmp 52) (.tmp 55) rfl rfl (by go_simp) (by go_simp) ?_; intro g7 v7 w8 hd7 hg7 hgr7
                 have hge7 := new_ge (K := w6.heap.size) hg7 (fun y hy => by cases hy; exact Nat.le_refl _) BEK.out.size
                 have hb7 := BEK.out.grown hgr7 BEK.out.size (fun y hy => by simp at hy; omega)
                 have s7 := HBW.out w8 hb7)
              | (refine step_appD elInt _ _ _ _ _ DKE.out _ _ _ _ _ _ RKE.out (one_key s) (by omega) (.tmp 52) (.tmp 55) rfl rfl (by go_simp) (by go_simp) ?_; intro g7 v7 w8 hd7 hg7 hgr7
                 have hge7 := new_ge (K := w6.heap.size) hg7 (fun y hy => by cases hy; exact Nat.le_succ _) BKE.out.size
                 have hb7 := BKE.out.grown hgr7 BKE.out.size (fun y hy => by simp at hy; omega)
                 have s7 := HBW.out w8 hb7)
              | (refine step_appD elInt g7 w8 v7 (0 + 1) _ hd7 _ _ _ _ _ _ (HR0.out w8 none) no_val (by omega) (.tmp 56) (.tmp 59) rfl rfl (by go_simp) (by go_simp) ?_; intro g8 v8 w9 hd8 hg8 hgr8
                 have hge8 := new_ge (K := w6.heap.size) hg8 hge7 hb7.size
                 have hb8 := hb7.grown hgr8 hb7.size (fun y hy => hge7 y hy)
                 have s8 := HBW.out w9 hb8)
              | fail)
          all_goals
            have HP := Lib.hid (ins_lst0 hd8 (fun y hy => by have := hge8 y hy; omega) (HB.out.trans (hb8.mono HB.out.size)))
            go_wp2
            all_goals
              go_ret2
              rw [HV.out.1, HV.out.2]
              exact HP.out
        · skip
          go_upto_region 9 with (fail)
          have HBW : Hid (∀ W', Below w6.heap.size w6 W' → W'.cell? ⟨w.heap.size, 0, none⟩ = some (.int .i64 s)) := fun W' hb => (hb.cell (p := ⟨w.heap.size, 0, none⟩) hw6).trans z0
          have HR0 : Hid (∀ (W' : World) (base : Option Addr), Row 0 w6.heap.size W' base 0 c 1 ([] : List Value)) := fun W' base => Row.nil_ (by unfold maxLen; omega)
          have hbE : Below w6.heap.size w6 (w6.alloc (.cells #[] 3)) := (Below.refl _ _).alloc (Nat.le_refl _) _
          have hbK : Below w6.heap.size w6 (w6.alloc (.cells #[.int .i64 s] 3)) := (Below.refl _ _).alloc (Nat.le_refl _) _
          have hbEK := hbE.alloc hbE.size (.cells #[.int .i64 s] 3)
          have hbKE := hbK.alloc hbK.size (.cells #[] 3)
          have S0 := Lib.hid (HBW.out w6.drew (below_dr (Below.refl _ _) (d := 1)))
          have SE := Lib.hid (HBW.out (w6.alloc (.cells #[] 3)).drew (below_dr hbE (d := 1)))
          have SK := Lib.hid (HBW.out (w6.alloc (.cells #[.int .i64 s] 3)).drew (below_dr hbK (d := 1)))
          have SEK := Lib.hid (HBW.out ((w6.alloc (.cells #[] 3)).alloc (.cells #[.int .i64 s] 3)).drew (below_dr hbEK (d := 1)))
          have SKE := Lib.hid (HBW.out ((w6.alloc (.cells #[.int .i64 s] 3)).alloc (.cells #[] 3)).drew (below_dr hbKE (d := 1)))
          have BE : Hid (Below w6.heap.size w6 (w6.alloc (.cells #[] 3)).drew) := below_dr hbE (d := 1)
          have BEK : Hid (Below w6.heap.size w6 ((w6.alloc (.cells #[] 3)).alloc (.cells #[.int .i64 s] 3)).drew) := below_dr hbEK (d := 1)
          have BKE : Hid (Below w6.heap.size w6 ((w6.alloc (.cells #[.int .i64 s] 3)).alloc (.cells #[] 3)).drew) := below_dr hbKE (d := 1)
          have DE : Hid (Dest 3 1 (some w6.heap.size) (w6.alloc (.cells #[] 3)).drew (.slice (some ⟨w6.heap.size, 0, none⟩) 0 0) 0 []) := .inr ⟨_, rfl, accV_new w6.drew _ _⟩
          have DEK : Hid (Dest 3 1 (some w6.heap.size) ((w6.alloc (.cells #[] 3)).alloc (.cells #[.int .i64 s] 3)).drew (.slice (some ⟨w6.heap.size, 0, none⟩) 0 0) 0 []) := .inr ⟨_, rfl, (accV_new w6.drew _ _).alloc (.cells #[.int .i64 s] 3)⟩
          have DKE : Hid (Dest 3 1 (some (w6.heap.size + 1)) ((w6.alloc (.cells #[.int .i64 s] 3)).alloc (.cells #[] 3)).drew (.slice (some ⟨w6.heap.size + 1, 0, none⟩) 0 0) 0 []) := key_dest w6 s
          have REK : Hid (Row (w6.heap.size + 1) (w6.heap.size + 1 + 1) ((w6.alloc (.cells #[] 3)).alloc (.cells #[.int .i64 s] 3)).drew (some ⟨w6.heap.size + 1, 0, none⟩) 1 1 1 [.int .i64 s]) := key_row1 w6 s
          have RKE : Hid (Row w6.heap.size (w6.heap.size + 1) ((w6.alloc (.cells #[.int .i64 s] 3)).alloc (.cells #[] 3)).drew (some ⟨w6.heap.size, 0, none⟩) 1 1 1 [.int .i64 s]) := key_row2 w6 s
          clear hbE hbK hbEK hbKE
          go_region_held3 (fun w' => w'.cell? ⟨w.heap.size, 0, none⟩ = some (.int .i64 s))
            (first | with_reducible exact S0.out | with_reducible exact SE.out | with_reducible exact SK.out | with_reducible exact SEK.out | with_reducible exact SKE.out | with_reducible exact s6 | with_reducible exact s6k | with_reducible exact s7 | with_reducible exact s8 | fail)
            (first
              | (refine step_appD elInt _ _ _ _ _ DEK.out _ _ _ _ _ _ REK.out (one_key s) (by omega) (.tmp 52) (.tmp 55) rfl rfl (by go_simp) (by go_simp) ?_; intro g7 v7 w8 hd7 hg7 hgr7
                 have hge7 := new_ge (K := w6.heap.size) hg7 (fun y hy => by cases hy; exact Nat.le_refl _) BEK.out.size
                 have hb7 := BEK.out.grown hgr7 BEK.out.size (fun y hy => by simp at hy; omega)
                 have s7 := HBW.out w8 hb7)
              | (refine step_appD elInt _ _ _ _ _ DKE.out _ _ _ _ _ _ RKE.out (one_key s) (by omega) (.tmp 52) (.tmp 55) rfl rfl (by go_simp) (by go_simp) ?_; intro g7 v7 w8 hd7 hg7 hgr7
                 have hge7 := new_ge (K := w6.heap.size) hg7 (fun y hy => by cases hy; exact Nat.le_succ _) BKE.out.size
                 have hb7 := BKE.out.grown hgr7 BKE.out.size (fun y hy => by simp at hy; omega)
                 have s7 := HBW.out w8 hb7)
              | (refine step_appD elInt g7 w8 v7 (0 + 1) _ hd7 _ _ _ _ _ _ (HR0.out w8 (some ad)) no_val (by omega) (.tmp 56) (.tmp 59) rfl rfl (by go_simp) (by go_simp) ?_; intro g8 v8 w9 hd8 hg8 hgr8
                 have hge8 := new_ge (K := w6.heap.size) hg8 hge7 hb7.size
                 have hb8 := hb7.grown hgr8 hb7.size (fun y hy => hge7 y hy)
                 have s8 := HBW.out w9 hb8)
              | fail)
          all_goals
            have HP := Lib.hid (ins_lst0 hd8 (fun y hy => by have := hge8 y hy; omega) (HB.out.trans (hb8.mono HB.out.size)))
            go_wp2
            all_goals
              go_ret2
              rw [HV.out.1, HV.out.2]
              exact HP.out
      · skip
        go_upto_region 9 with (fail)
        obtain ⟨bB, oB, rfl, _, _, _⟩ := IB.out.at_ (k := 0) (by omega)
        have hqd : q ≤ c := by omega
        have hqn : (q : Int) ≤ (xs.length : Int) := by omega
        have HBW : Hid (∀ W', Below w6.heap.size w6 W' → W'.cell? ⟨w.heap.size, 0, none⟩ = some (.int .i64 s)) := fun W' hb => (hb.cell (p := ⟨w.heap.size, 0, none⟩) hw6).trans z0
        have HRT : Hid (∀ W', Below w6.heap.size w6 W' → Row 0 w6.heap.size W' (some ⟨bB, oB, none⟩) q c 1 ((xs.take q).map (Value.int .i64))) := fun W' hb => by
          have h := (ints_topS IB.out (Nat.zero_le lo)).below hb (Nat.le_refl _)
          have h2 := h.sub_ (k := 0) (m := q) (by omega)
          rw [Nat.add_zero, List.drop_zero] at h2
          exact ints_row h2
        have HRD : Hid (∀ W', Below w6.heap.size w6 W' → Row 0 w6.heap.size W' (if c = q then some ⟨bB, oB, none⟩ else some ⟨bB, oB + q, none⟩) (xs.length - q) (c - q) 1 ((xs.drop q).map (Value.int .i64))) := fun W' hb => by
          have h := (ints_topS IB.out (Nat.zero_le lo)).below hb (Nat.le_refl _)
          split
          · rename_i e
            have e2 : xs.length - q = 0 := by omega
            rw [e2, List.drop_eq_nil_of_le (by omega)]
            exact ints_row ⟨rfl, by omega, by unfold maxLen; omega, fun hn => absurd hn (by omega)⟩
          · have h2 := h.sub_ (k := q) (m := xs.length - q) (by omega)
            rw [List.take_of_length_le (by rw [List.length_drop]; exact Nat.le_refl _)] at h2
            exact ints_row h2
        have hbE : Below w6.heap.size w6 (w6.alloc (.cells #[] 3)) := (Below.refl _ _).alloc (Nat.le_refl _) _
        have hbK : Below w6.heap.size w6 (w6.alloc (.cells #[.int .i64 s] 3)) := (Below.refl _ _).alloc (Nat.le_refl _) _
        have hbEK := hbE.alloc hbE.size (.cells #[.int .i64 s] 3)
        have hbKE := hbK.alloc hbK.size (.cells #[] 3)
        have S0 := Lib.hid (HBW.out w6.drew (below_dr (Below.refl _ _) (d := 1)))
        have SE := Lib.hid (HBW.out (w6.alloc (.cells #[] 3)).drew (below_dr hbE (d := 1)))
        have SK := Lib.hid (HBW.out (w6.alloc (.cells #[.int .i64 s] 3)).drew (below_dr hbK (d := 1)))
        have SEK := Lib.hid (HBW.out ((w6.alloc (.cells #[] 3)).alloc (.cells #[.int .i64 s] 3)).drew (below_dr hbEK (d := 1)))
        have SKE := Lib.hid (HBW.out ((w6.alloc (.cells #[.int .i64 s] 3)).alloc (.cells #[] 3)).drew (below_dr hbKE (d := 1)))
        have BE : Hid (Below w6.heap.size w6 (w6.alloc (.cells #[] 3)).drew) := below_dr hbE (d := 1)
        have BEK : Hid (Below w6.heap.size w6 ((w6.alloc (.cells #[] 3)).alloc (.cells #[.int .i64 s] 3)).drew) := below_dr hbEK (d := 1)
        have BKE : Hid (Below w6.heap.size w6 ((w6.alloc (.cells #[.int .i64 s] 3)).alloc (.cells #[] 3)).drew) := below_dr hbKE (d := 1)
        have DE : Hid (Dest 3 1 (some w6.heap.size) (w6.alloc (.cells #[] 3)).drew (.slice (some ⟨w6.heap.size, 0, none⟩) 0 0) 0 []) := .inr ⟨_, rfl, accV_new w6.drew _ _⟩
        have DEK : Hid (Dest 3 1 (some w6.heap.size) ((w6.alloc (.cells #[] 3)).alloc (.cells #[.int .i64 s] 3)).drew (.slice (some ⟨w6.heap.size, 0, none⟩) 0 0) 0 []) := .inr ⟨_, rfl, (accV_new w6.drew _ _).alloc (.cells #[.int .i64 s] 3)⟩
        have DKE : Hid (Dest 3 1 (some (w6.heap.size + 1)) ((w6.alloc (.cells #[.int .i64 s] 3)).alloc (.cells #[] 3)).drew (.slice (some ⟨w6.heap.size + 1, 0, none⟩) 0 0) 0 []) := key_dest w6 s
        have REK : Hid (Row (w6.heap.size + 1) (w6.heap.size + 1 + 1) ((w6.alloc (.cells #[] 3)).alloc (.cells #[.int .i64 s] 3)).drew (some ⟨w6.heap.size + 1, 0, none⟩) 1 1 1 [.int .i64 s]) := key_row1 w6 s
        have RKE : Hid (Row w6.heap.size (w6.heap.size + 1) ((w6.alloc (.cells #[.int .i64 s] 3)).alloc (.cells #[] 3)).drew (some ⟨w6.heap.size, 0, none⟩) 1 1 1 [.int .i64 s]) := key_row2 w6 s
        have hqi : decide ((q : Int) < 0) = false := by simp
        clear hbE hbK hbEK hbKE
        go_region_held3 (fun w' => w'.cell? ⟨w.heap.size, 0, none⟩ = some (.int .i64 s))
          (first | with_reducible exact S0.out | with_reducible exact SE.out | with_reducible exact SK.out | with_reducible exact SEK.out | with_reducible exact SKE.out | with_reducible exact s6 | with_reducible exact s6k | with_reducible exact s7 | with_reducible exact s8 | fail)
          (first
            | (refine step_appD elInt _ _ _ _ _ DE.out _ _ _ _ _ _ (HRT.out _ BE.out) (ints_one_cell _) (by omega) (.tmp 48) (.tmp 51) rfl rfl (by go_simp) (by go_simp) ?_; intro g6 v6 w7 hd6 hg6 hgr6
               rw [List.nil_append, Nat.zero_add] at hd6
               have hge6 := new_ge (K := w6.heap.size) hg6 (fun y hy => by cases hy; exact Nat.le_refl _) BE.out.size
               have hb6 := BE.out.grown hgr6 BE.out.size (fun y hy => by simp at hy; omega)
               have s6 := HBW.out w7 hb6
               have s6k := HBW.out _ (hb6.alloc hb6.size (.cells #[.int .i64 s] 3)))
            | (refine step_appD elInt _ _ _ _ _ DEK.out _ _ _ _ _ _ (HRT.out _ BEK.out) (ints_one_cell _) (by omega) (.tmp 48) (.tmp 51) rfl rfl (by go_simp) (by go_simp) ?_; intro g6 v6 w7 hd6 hg6 hgr6
               rw [List.nil_append, Nat.zero_add] at hd6
               have hge6 := new_ge (K := w6.heap.size) hg6 (fun y hy => by cases hy; exact Nat.le_refl _) BEK.out.size
               have hb6 := BEK.out.grown hgr6 BEK.out.size (fun y hy => by simp at hy; omega)
               have hky := row_grown REK.out hgr6 (.inl (Nat.lt_succ_self _))
               have s6 := HBW.out w7 hb6)
            | (refine step_appD elInt _ _ _ _ _ DKE.out _ _ _ _ _ _ (HRT.out _ BKE.out) (ints_one_cell _) (by omega) (.tmp 48) (.tmp 51) rfl rfl (by go_simp) (by go_simp) ?_; intro g6 v6 w7 hd6 hg6 hgr6
               rw [List.nil_append, Nat.zero_add] at hd6
               have hge6 := new_ge (K := w6.heap.size) hg6 (fun y hy => by cases hy; exact Nat.le_succ _) BKE.out.size
               have hb6 := BKE.out.grown hgr6 BKE.out.size (fun y hy => by simp at hy; omega)
               have hky := row_grown RKE.out hgr6 (.inr (Nat.le_refl _))
               have s6 := HBW.out w7 hb6)
            | (refine step_appD elInt g6 _ v6 q _ (dest_alloc hd6 (.cells #[.int .i64 s] 3)) _ _ _ _ _ _ (row_lit w7 3 [.int .i64 s] (sz := 1) rfl) (one_key s) (by omega) (.tmp 52) (.tmp 55) rfl rfl (by go_simp) (by go_simp) ?_; intro g7 v7 w8 hd7 hg7 hgr7
               have hbz := hb6.alloc hb6.size (.cells #[.int .i64 s] 3)
               have hge7 := new_ge (K := w6.heap.size) hg7 hge6 hbz.size
               have hb7 := hbz.grown hgr7 hbz.size (fun y hy => hge6 y hy)
               have s7 := HBW.out w8 hb7)
            | (refine step_appD elInt g6 w7 v6 q _ hd6 _ _ _ _ _ _ hky (one_key s) (by omega) (.tmp 52) (.tmp 55) rfl rfl (by go_simp) (by go_simp) ?_; intro g7 v7 w8 hd7 hg7 hgr7
               have hge7 := new_ge (K := w6.heap.size) hg7 hge6 hb6.size
               have hb7 := hb6.grown hgr7 hb6.size (fun y hy => hge6 y hy)
               have s7 := HBW.out w8 hb7)
            | (refine step_appD elInt g7 w8 v7 (q + 1) _ hd7 _ _ _ _ _ _ (HRD.out w8 hb7) (ints_one_cell _) (by omega) (.tmp 56) (.tmp 59) rfl rfl (by go_simp) (by go_simp) ?_; intro g8 v8 w9 hd8 hg8 hgr8
               have hge8 := new_ge (K := w6.heap.size) hg8 hge7 hb7.size
               have hb8 := hb7.grown hgr8 hb7.size (fun y hy => hge7 y hy)
               have s8 := HBW.out w9 hb8)
            | fail)
        all_goals
          have HP := Lib.hid (ins_lst HPL.out hq hd8 (fun y hy => by have := hge8 y hy; omega) (HB.out.trans (hb8.mono HB.out.size)))
          go_wp2
          all_goals
            go_ret2
            rw [HV.out.1, HV.out.2]
            exact HP.out

end Sp12
end Go.Proofs.YtecdoibdpimlaabDoor
