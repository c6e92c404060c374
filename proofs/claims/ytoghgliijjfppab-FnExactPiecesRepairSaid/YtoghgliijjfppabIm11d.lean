/-
  Contracts of the program's chapter 23: the parity of pieces, pieces repaired.
-/
import Derived.Test.YtoghgliijjfppabIm11c
namespace Go.Proofs.Ytoghgliijjfppab
open Go.RowKit
namespace Im11
open Il Sl Fo Cm Cs Gm Mm Pc Im2 Im4 Chn

theorem own_new {w w' : World} {b : Nat} {p : T3} (h : Il.Own b (b + 1) w' (some ⟨b, 0, none⟩) 3 3 (l3 p)) (h1 : w.heap.size ≤ b) (h2 : b < w'.heap.size) (h3 : Below w.heap.size w w') : NewInts w (l3 p) (.returned (.slice (some ⟨b, 0, none⟩) 3 3)) w' :=
  ⟨_, 3, rfl, h.mono h1 h2, h3⟩
theorem pcs_in {ps : List (List Int)} {m : Nat} (h : pcsOk ps m = true) : ∀ x ∈ ps, in3 (fil z3 x) := fun x hx => maybe_in ((pcsOk_iff.1 h).2.1 x hx) z3_in

theorem piecesValid0 (lo hi : Nat) (A : Option Addr) (n c : Nat) (ps : List (List Int)) (w : World) (hx : Sts lo hi w A n c ps) :
    Calls Try.prog 41 #[.slice A n c, .int .i64 0] w fun e w' => e = .returned (.bool (pcsOk ps 0)) ∧ w = w' := piecesValid lo hi A n c ps 0 w hx (by omega)
theorem piecesValid1 (lo hi : Nat) (A : Option Addr) (n c : Nat) (ps : List (List Int)) (w : World) (hx : Sts lo hi w A n c ps) :
    Calls Try.prog 41 #[.slice A n c, .int .i64 1] w fun e w' => e = .returned (.bool (pcsOk ps 1)) ∧ w = w' := piecesValid lo hi A n c ps 1 w hx (by omega)

theorem withPieces0 (lo hi : Nat) (A : Option Addr) (n c : Nat) (ps : List (List Int)) (w : World) (hx : Sts lo hi w A n c ps) (hn : n ≤ 1000) (hps : ∀ x ∈ ps, in3 (fil z3 x)) :
    Calls Try.prog 42 #[.agg #[.int .i64 0, .int .i64 0, .int .i64 0], .slice A n c, .int .i64 1] w (SumP 1 z3 ps w) := withPieces lo hi A n c ps 1 z3 w hx hn (.inl rfl) z3_in hps
set_option maxRecDepth 20000 in
theorem PiecesParity (lo hi : Nat) (A : Option Addr) (n c : Nat) (ps : List (List Int)) (w : World) (hx : Sts lo hi w A n c ps) :
    Calls Try.prog 21 #[.slice A n c] w (NewInts w (parF ps)) := by
  have HX := Lib.hid hx
  have HE := Lib.hid (acc_new w)
  have HL := Lib.hid hx.len_
  clear hx
  cases hok : pcsOk ps 0
  · rw [parF_no hok]
    go_enter Try.func21, Try.ntmps21
    go_wp2_with fail
    ((with_reducible refine (piecesValid0 _ _ _ _ _ ps _ HX.out).mono ?_); rintro e w1 ⟨rfl, rfl⟩)
    rw [hok]
    clear hok
    go_wp2
    go_ret
    exact HE.out.post
  · rw [parF_yes hok]
    have hn : n ≤ 1000 := by have := (pcsOk_iff.1 hok).1; have := HL.out; omega
    have HPS := Lib.hid (pcs_in hok)
    go_enter Try.func21, Try.ntmps21
    go_wp2_with fail
    ((with_reducible refine (piecesValid0 _ _ _ _ _ ps _ HX.out).mono ?_); rintro e w1 ⟨rfl, rfl⟩)
    rw [hok]
    clear hok
    go_wp2_with fail
    ((with_reducible refine (withPieces0 _ _ _ _ _ ps _ HX.out hn HPS.out).mono ?_); rintro e w2 ⟨rfl, hb2⟩)
    have HB2 := Lib.hid hb2
    clear hb2
    go_wp2_with fail
    ((with_reducible refine (pieceList _ _).mono ?_); rintro e w3 ⟨b3, rfl, ho3, h1, h2, h3⟩)
    have HP : Hid (NewInts w (l3 (sumP 1 z3 ps)) (.returned (.slice (some ⟨b3, 0, none⟩) 3 3)) w3) := own_new ho3 (by have := HB2.out.size; omega) h2 (HB2.out.trans (h3.mono HB2.out.size))
    clear ho3 h3
    go_wp2
    go_ret
    exact HP.out

/-- A list of lists of the call's own, and a bool. -/
def PairSS (xss : List (List Int)) (t : Bool) (w : World) (e : Ending) (w' : World) : Prop :=
  ∃ A c G, e = .returned (.tuple #[.slice A xss.length c, .bool t]) ∧ StsO w' A xss.length c xss G ∧ Within w.heap.size w'.heap.size G ∧ Below w.heap.size w w'
theorem pairSS_nil {w : World} : PairSS [] false w (.returned (.tuple #[.slice (some ⟨w.heap.size, 0, none⟩) 0 0, .bool false])) (w.alloc (.cells #[] 22)) :=
  ⟨_, 0, [[]], rfl, StsO.nil_ (Nat.zero_le _), within_nil, (Below.refl _ _).alloc (Nat.le_refl _) _⟩
theorem under3 : Try.prog.underlying 52 = some (.array 3 3) := by kernel_rfl
/-- A slice of three numbers as a pointer to an array. -/
theorem runArray3 (a : Addr) (c : Nat) (w : World) : (Instr.arrayAt 52 (.slice (some a) 3 c)).run Try.prog w = .ok (.pointer (some a)) w := by
  simp [Instr.arrayAt, run_underlying under3]
theorem withPieces1 (lo hi : Nat) (A : Option Addr) (n c : Nat) (ps : List (List Int)) (x y z : Int) (w : World) (hx : Sts lo hi w A n c ps) (hn : n ≤ 1000) (hf : in3 (fil z3 [x, y, z])) (hps : ∀ x ∈ ps, in3 (fil z3 x)) :
    Calls Try.prog 42 #[.agg #[.int .i64 x, .int .i64 y, .int .i64 z], .slice A n c, .int .i64 (-1)] w (SumP (-1) (fil z3 [x, y, z]) ps w) := withPieces lo hi A n c ps (-1) (fil z3 [x, y, z]) w hx hn (.inr rfl) hf hps
theorem outP_repL (ps : List (List Int)) (q : List Int) : outP (lost ps q) ps = repL ps q := rfl
set_option maxRecDepth 20000 in
set_option maxHeartbeats 1000000 in
theorem PiecesRepair (lo hi lo2 hi2 : Nat) (A B : Option Addr) (n c m d : Nat) (ps : List (List Int)) (q : List Int) (w : World) (hx : Sts lo hi w A n c ps) (hq : Ints lo2 hi2 w B m d q) :
    Calls Try.prog 24 #[.slice A n c, .slice B m d] w (PairSS (repF ps q) (repOk ps q) w) := by
  have HX := Lib.hid hx
  have HQ := Lib.hid hq
  have HL := Lib.hid hx.len_
  have HNIL : Hid (repOk ps q = false → PairSS (repF ps q) (repOk ps q) w (.returned (.tuple #[.slice (some ⟨w.heap.size, 0, none⟩) 0 0, .bool false])) (w.alloc (.cells #[] 22))) := fun h => by rw [repF_no h, h]; exact pairSS_nil
  clear hx hq
  cases hok : pcsOk ps 1
  · have HV := Lib.hid (HNIL.out (by unfold repOk; rw [hok]; rfl))
    go_enter Try.func24, Try.ntmps24
    go_wp2_with fail
    ((with_reducible refine (piecesValid1 _ _ _ _ _ ps _ HX.out).mono ?_); rintro e w1 ⟨rfl, rfl⟩)
    rw [hok]
    clear hok
    go_wp2
    go_ret2
    exact HV.out
  cases hpk : pieceOk q
  · have HV := Lib.hid (HNIL.out (by unfold repOk; rw [hok, hpk]; rfl))
    go_enter Try.func24, Try.ntmps24
    go_wp2_with fail
    ((with_reducible refine (piecesValid1 _ _ _ _ _ ps _ HX.out).mono ?_); rintro e w1 ⟨rfl, rfl⟩)
    rw [hok]
    clear hok
    go_wp2_with fail
    ((with_reducible refine (pieceValid _ _ _ _ _ q _ HQ.out).mono ?_); rintro e w1 ⟨rfl, rfl⟩)
    rw [hpk]
    clear hpk
    go_wp2
    go_ret2
    exact HV.out
  have HOK := Lib.hid hok
  have hr : repOk ps q = true := repOk_iff.2 ⟨hok, hpk⟩
  have HR : Hid (repF ps q = repL ps q ∧ repOk ps q = true) := ⟨repF_yes hr, hr⟩
  have hn : n ≤ 1000 := by have := (pcsOk_iff.1 hok).1; have := HL.out; omega
  have HPS := Lib.hid (pcs_in hok)
  have HIQ := Lib.hid (piece_in hpk z3)
  have hm : m = 3 := by rw [← HQ.out.1]; exact (pieceOk_iff.1 hpk).2
  subst hm
  obtain ⟨x, y, z, rfl⟩ := three HQ.out.1
  obtain ⟨b, off, rfl, _, _, hbz, hc⟩ := HQ.out.2.2.2 (by omega)
  have c0 := hc 0 (by omega)
  have c1 := hc 1 (by omega)
  have c2 := hc 2 (by omega)
  simp only [List.getD_cons_zero, List.getD_cons_succ, Nat.add_zero] at c0 c1 c2
  have hap := runArray3 ⟨b, off, none⟩ d
  have hd3 := HQ.out.2.1
  clear hc hr
  rw [HR.out.1, HR.out.2]
  go_enter Try.func24, Try.ntmps24
  go_wp2_with fail
  ((with_reducible refine (piecesValid1 _ _ _ _ _ ps _ HX.out).mono ?_); rintro e w1 ⟨rfl, rfl⟩)
  rw [hok]
  clear hok
  go_wp2_with fail
  ((with_reducible refine (pieceValid _ _ _ _ _ [x, y, z] _ HQ.out).mono ?_); rintro e w1 ⟨rfl, rfl⟩)
  rw [hpk]
  clear hpk
  go_wp2_with fail
  ((with_reducible refine (withPieces1 _ _ _ _ _ ps x y z _ HX.out hn HIQ.out HPS.out).mono ?_); rintro e w2 ⟨rfl, hb2⟩)
  have HOUT : Hid (outP (sumP (-1) (fil z3 [x, y, z]) ps) ps = repL ps [x, y, z]) := rfl
  generalize sumP (-1) (fil z3 [x, y, z]) ps = f at *
  have hb3 := hb2.alloc hb2.size (.cells #[.int .i64 f.1, .int .i64 f.2.1, .int .i64 f.2.2] 52)
  have HB3 := Lib.hid hb3
  have HX3 := Lib.hid (HX.out.below hb3 (Nat.le_refl _))
  clear hb2 hb3 c0 c1 c2 hap
  go_wp2_with fail
  ((with_reducible refine (passPieces _ _ _ _ _ ps f _ HX3.out hn).mono ?_); rintro e w4 ⟨ch, rfl, hch, hcl, hb4⟩)
  have HB4 := Lib.hid hb4
  have hb34 := HB3.out.size
  have hb44 := hb4.size
  have HCH := Lib.hid hch
  clear hb4 hch
  go_wp2_with fail
  ((with_reducible refine (receivePieces w.heap.size _ _ f ps _ HCH.out (by omega) (by have := HL.out; omega)).mono ?_); rintro e w5 ⟨A5, c5, G5, rfl, ho5, hw5, hb5⟩)
  have HP : Hid (PairSS (repL ps [x, y, z]) true w (.returned (.tuple #[.slice A5 (outP f ps).length c5, .bool true])) w5) := by
    rw [← HOUT.out]
    exact ⟨A5, c5, G5, rfl, ho5, hw5.mono (by omega) (Nat.le_refl _), HB3.out.trans ((HB4.out.mono (by omega)).trans hb5)⟩
  clear ho5 hw5 hb5
  go_wp2
  go_ret2
  exact HP.out

end Im11
end Go.Proofs.Ytoghgliijjfppab
