/-
  Contracts of the program's chapter 23: pieces passed over a channel, received, added up.
-/
import Derived.Test.YtoghgliijjfppabIm11
namespace Go.Proofs.Ytoghgliijjfppab
open Go.RowKit
namespace Im11
open Il Sl Fo Cm Cs Gm Mm Pc Im2 Im4 Chn

theorem three_cells {w : World} {b : Nat} {v0 v1 v2 : Value} {t : TypeId} (h : Blk w b #[v0, v1, v2] t) :
    w.cell? ⟨b, 0, none⟩ = some v0 ∧ w.cell? ⟨b, 1, none⟩ = some v1 ∧ w.cell? ⟨b, 2, none⟩ = some v2 ∧ ∀ j, w.frozen? ⟨b, j, none⟩ = false := by
  have h' : w.heap[b]? = some (.cells #[v0, v1, v2] t (0, 0)) := h
  refine ⟨?_, ?_, ?_, fun j => by simp [World.frozen?, h']⟩
  all_goals rw [cell_of_row _ _ _ _ _ _ h']; rfl

theorem vals_len (l : List Int) : (vals l).length = l.length := by simp [vals]
theorem vals_get {l : List Int} {q : Nat} {v : Value} (h : (vals l)[q]? = some v) : q < l.length ∧ v = .int .i64 (l.getD q 0) := by
  have hq := (List.getElem?_eq_some_iff.1 h).1
  rw [vals_len] at hq
  refine ⟨hq, ?_⟩
  rw [vals, List.getElem?_map, List.getElem?_eq_getElem hq] at h
  rw [List.getD_eq_getElem?_getD, List.getElem?_eq_getElem hq]
  simpa using h.symm
theorem splice_fil (f : T3) (xs : List Int) : splice (vals (l3 f)) 0 (vals (xs.take 3)) = vals (l3 (fil f xs)) := by
  match xs with
  | [] => rfl
  | [_] => rfl
  | [_, _] => rfl
  | _ :: _ :: _ :: _ => rfl
theorem setChan_far {w : World} {c b : Nat} (cap : Nat) (buf : Array Value) (cl : Bool) (h : b ≠ c) {s r : Nat} {tm : Bool} : (w.setChan c cap buf cl s r tm).heap[b]? = w.heap[b]? := by
  simp only [World.setChan]
  exact Array.getElem?_setIfInBounds_ne (Ne.symm h)
theorem infoP : ∃ i, Try.prog.info? 52 = some i ∧ i.bytes = 24 := by
  have h : (Try.prog.info? 52).map (·.bytes) = some 24 := by kernel_rfl
  obtain ⟨i, hi, hb⟩ := Option.map_eq_some_iff.1 h
  exact ⟨i, hi, hb⟩
theorem mkChan (n : Nat) (hn : n ≤ 1000) (w : World) : (Instr.makeChan 65 (.int .i64 n)).run Try.prog w = .ok (.chan (some w.heap.size)) (w.alloc (.chan n #[] false 0 0 false)) := by
  obtain ⟨i, hi, hb⟩ := infoP
  exact Go.Conc.run_makeChan (P := Try.prog) (w := w) Try.underlying65 hi .i64 n (by omega) (by rw [hb]; omega)
/-- The values of pieces in a channel. -/
def bufP (f : T3) (ps : List (List Int)) : Array Value := (ps.map fun xs => v3 (fil f xs)).toArray
theorem bufP_size (f : T3) (ps : List (List Int)) : (bufP f ps).size = ps.length := by simp [bufP]
theorem bufP_snoc (f : T3) (ps : List (List Int)) (x : List Int) : bufP f (ps ++ [x]) = (bufP f ps).push (v3 (fil f x)) := by simp [bufP]
/-- What passPieces has sent. -/
def PRel (w wr : World) (A : Option Addr) (n c : Nat) (ps : List (List Int)) (f : T3) (j : Nat) : Prop :=
  Blk wr w.heap.size #[.int .i64 f.1, .int .i64 f.2.1, .int .i64 f.2.2] 52 ∧ wr.heap[w.heap.size + 1]? = some (.chan n (bufP f (ps.take j)) false j 0 false) ∧ Below w.heap.size w wr ∧ Sts 0 w.heap.size wr A n c ps
/-- A closed channel that holds pieces. -/
def ChanP (n : Nat) (f : T3) (ps : List (List Int)) (w : World) (e : Ending) (w' : World) : Prop :=
  ∃ c, e = .returned (.chan (some c)) ∧ w'.heap[c]? = some (.chan n (bufP f ps) true n 0 false) ∧ w.heap.size ≤ c ∧ Below w.heap.size w w'

set_option maxRecDepth 20000 in
set_option maxHeartbeats 2000000 in
theorem passPieces (lo hi : Nat) (A : Option Addr) (n c : Nat) (ps : List (List Int)) (f : T3) (w : World) (hx : Sts lo hi w A n c ps) (hn : n ≤ 1000) :
    Calls Try.prog 38 #[.slice A n c, v3 f] w (ChanP n f ps w) := by
  have hk1 := hx.max_
  have hk2 := hx.cap_
  have HL := Lib.hid hx.len_
  unfold maxLen at hk1
  have hmc := mkChan n hn
  have h0 : Below w.heap.size w (w.alloc (.cells #[.int .i64 f.1, .int .i64 f.2.1, .int .i64 f.2.2] 52)) := (Below.refl _ _).alloc (Nat.le_refl _) _
  have HR0 : Hid (PRel w ((w.alloc (.cells #[.int .i64 f.1, .int .i64 f.2.1, .int .i64 f.2.2] 52)).alloc (.chan n #[] false 0 0 false)) A n c ps f 0) := by
    have h1 := h0.alloc h0.size (.chan n #[] false 0 0 false)
    refine ⟨(Below.heap_alloc _ _ _ (by simp)).trans (heap_alloc_new _ _), ?_, h1, (hx.top (Nat.zero_le _)).below h1 (Nat.le_refl _)⟩
    have := heap_alloc_new (w.alloc (.cells #[.int .i64 f.1, .int .i64 f.2.1, .int .i64 f.2.2] 52)) (.chan n #[] false 0 0 false)
    simpa [bufP] using this
  clear hx h0
  go_enter Try.func38, Try.ntmps38
  go_wp2
  clear hmc
  go_loopw [14] (fun i wr => ∃ j : Nat, j ≤ n ∧ i = .int .i64 j ∧ Hid (PRel w wr A n c ps f j)) (fun i _ => n - (intOf i).toNat)
  case atStart => exact ⟨0, Nat.zero_le _, rfl, HR0.out⟩
  case round =>
    obtain ⟨j, hj, rfl, hR⟩ := hrel
    clear HR0
    obtain ⟨k0, k1, k2, k3⟩ := hR.out
    by_cases hlt : j < n
    · obtain ⟨b, off, B, e, rfl, _, _, hbz, cB, iB⟩ := k3.at_ hlt
      have IB := Lib.hid iB
      obtain ⟨z0, z1, z2, zf⟩ := three_cells k0
      clear iB
      have hlj : j < ps.length := by rw [HL.out]; exact hlt
      have HTS := Lib.hid (Ck.take_slot hlj)
      have hcl := (Array.getElem?_eq_some_iff.1 k1).1
      have HK0 := Lib.hid k0
      have HK1 := Lib.hid k1
      have HK2 := Lib.hid k2
      have HK3 := Lib.hid k3
      clear k0 k1 k2 k3 hR
      generalize slAt ps j = xs at *
      have he := IB.out.2.1
      have he2 := IB.out.2.2.1
      unfold maxLen at he2
      go_wp2_with (with_reducible refine wpList_copy_splice rfl _ _ _ _ rfl 3 underInts sizeInt _ _ _ _ _ _ rfl rfl wr.heap.size 0 (vals (l3 f)) 52 ?hg (vals (xs.take 3)) ?hn ?hpos ?hfit ?h1 wr.heap.size wr ?hb ?hBg ?h)
      case hg => exact heap_alloc_new _ _
      case hn => rw [vals_len, List.length_take]; exact Nat.min_comm _ _
      case hpos =>
        intro hpos
        rw [vals_len, List.length_take] at hpos
        obtain ⟨b2, off2, e2, _, _, hz2, hc2⟩ := IB.out.2.2.2 (by omega)
        refine ⟨⟨b2, off2, none⟩, e2, fun q v hv => ?_⟩
        obtain ⟨hq, hv2⟩ := vals_get hv
        rw [List.length_take] at hq
        rw [Addr.add_mid, World.cell?_alloc_lt _ _ _ hz2, hc2 q (by omega), hv2]
        simp only [List.getD_eq_getElem?_getD, List.getElem?_take, show q < 3 from by omega, if_true]
      case hfit => rw [vals_len, vals_len, List.length_take, l3_len]; omega
      case h1 => intro v hv; obtain ⟨y, _, rfl⟩ := List.mem_map.1 hv; rfl
      case hb => exact (Below.refl _ _).alloc (Nat.le_refl _) _
      case hBg => exact Nat.le_refl _
      case h =>
      intro w1 hg1 hB1
      have hg2 := hg1.out
      rw [splice_fil] at hg2
      have kB : Blk w1 wr.heap.size #[.int .i64 (fil f xs).1, .int .i64 (fil f xs).2.1, .int .i64 (fil f xs).2.2] 52 := hg2
      have hC := (hB1.block _ hcl).trans HK1.out
      have HC := Lib.hid hC
      have HFIN : Hid (PRel w (w1.setChan (w.heap.size + 1) n ((bufP f (ps.take j)).push (v3 (fil f xs))) false (j + 1) 0 false) (some ⟨b, off, none⟩) n c ps f (j + 1)) := by
        have hbw : Below w.heap.size wr w1 := hB1.mono (by omega)
        have hbs := Go.Conc.below_setChan (B := w.heap.size) hbw (c := w.heap.size + 1) (by omega) n ((bufP f (ps.take j)).push (v3 (fil f xs))) false (j + 1) 0 false
        have hs1 := hB1.size
        refine ⟨HK0.out.same ((setChan_far _ _ _ (by omega)).trans (hB1.block _ (by omega))), ?_, HK2.out.trans hbs, HK3.out.below' hbs (Nat.le_refl _)⟩
        rw [← HTS.out, bufP_snoc]
        exact Go.Conc.heap_setChan _ _ _ _ _ _ _ _ (by omega)
      clear hg1 hg2 hB1 hC hcl
      obtain ⟨y0, y1, y2, yf⟩ := three_cells kB
      have hbz : (bufP f (ps.take j)).size < n := by rw [bufP_size, List.length_take, HL.out]; omega
      clear kB z0 z1 z2 zf HK0 HK1 HK2 HK3 IB HTS
      generalize fil f xs = p at *
      generalize ((vals (xs.take 3)).length : Int) = u21
      go_step
      go_step
      go_step
      refine Chn.wp_region_to (id := 7) ?_
      refine ListTo.value rfl rfl (v := .chan (some (w.heap.size + 1))) (w' := w1) (by go_simp) ?_
      refine ListTo.value rfl rfl (v := v3 p) (w' := w1) (by go_simp) ?_
      refine ListTo.send rfl rfl (c := w.heap.size + 1) (v := v3 p) (z := .tuple #[]) (by simp [execOp, Go.Conc.scase, Act.eval, Act.put]) HC.out hbz ?_
      refine ListTo.rest (show wpList _ _ _ [] _ _ from ?_)
      clear y0 y1 y2 yf HC hbz
      generalize w1.setChan (w.heap.size + 1) n ((bufP f (ps.take j)).push (v3 p)) false (j + 1) 0 false = w2 at *
      go_wp2
      go_roundw
      case rel => exact ⟨j + 1, by omega, by go_num, HFIN.out⟩
      case measure => simp [intOf]; omega
    · obtain rfl : j = n := by omega
      have HP : Hid (ChanP j f ps w (.returned (.chan (some (w.heap.size + 1)))) { wr with heap := wr.heap.setIfInBounds (w.heap.size + 1) (.chan j (bufP f ps) true j 0 false) }) := by
        have hz := (Array.getElem?_eq_some_iff.1 k1).1
        have hb := Go.Conc.below_setChan (B := w.heap.size) k2 (c := w.heap.size + 1) (by omega) j (bufP f ps) true j 0 false
        refine ⟨_, rfl, ?_, by omega, hb⟩
        exact Go.Conc.heap_setChan wr (w.heap.size + 1) j (bufP f ps) true j 0 false hz
      rw [List.take_of_length_le (by rw [HL.out]; exact Nat.le_refl _)] at k1
      have hcl := fun ats ty => run_close_open (P := Try.prog) (w := wr) ats ty k1
      clear k0 k1 k2 k3 hR hlt
      go_wp2
      go_ret
      exact HP.out
/-- .. with zeros to fill. -/
theorem passPieces0 (lo hi : Nat) (A : Option Addr) (n c : Nat) (ps : List (List Int)) (w : World) (hx : Sts lo hi w A n c ps) (hn : n ≤ 1000) :
    Calls Try.prog 38 #[.slice A n c, .agg #[.int .i64 0, .int .i64 0, .int .i64 0]] w (ChanP n z3 ps w) := passPieces lo hi A n c ps z3 w hx hn

/-- A list of lists of the call's own. -/
def NewSS (B : Nat) (xss : List (List Int)) (w : World) (e : Ending) (w' : World) : Prop :=
  ∃ A c G, e = .returned (.slice A xss.length c) ∧ StsO w' A xss.length c xss G ∧ Within w.heap.size w'.heap.size G ∧ Below B w w'
def outP (f : T3) (ps : List (List Int)) : List (List Int) := ps.map fun xs => l3 (fil f xs)
theorem outP_len (f : T3) (ps : List (List Int)) : (outP f ps).length = ps.length := by simp [outP]
theorem outP_snoc (f : T3) (ps : List (List Int)) (x : List Int) : outP f (ps ++ [x]) = outP f ps ++ [l3 (fil f x)] := by simp [outP]
/-- How much a channel holds. -/
def chLen (w : World) (c : Nat) : Nat := match w.heap[c]? with | some (.chan _ buf _ _ _ _) => buf.size | _ => 0
theorem chLen_of {w : World} {c n : Nat} {buf : Array Value} {cl : Bool} {s r : Nat} {tm : Bool} (h : w.heap[c]? = some (.chan n buf cl s r tm)) : chLen w c = buf.size := by unfold chLen; rw [h]
/-- What receivePieces has gathered. -/
def RRel (B : Nat) (w wr : World) (c n : Nat) (f : T3) (ps : List (List Int)) (v : Value) (j : Nat) : Prop :=
  wr.heap[c]? = some (.chan n (bufP f (ps.drop j)) true n j false) ∧ Below B w wr ∧ w.heap.size ≤ wr.heap.size ∧ ∃ ss : List Sk, GatK w.heap.size wr.heap.size wr v ss ∧ ss.map (·.xs) = outP f (ps.take j)
theorem drop_buf {f : T3} {ps : List (List Int)} {j : Nat} (h : j < ps.length) : (bufP f (ps.drop j)).getD 0 undef = v3 (fil f (slAt ps j)) ∧ (bufP f (ps.drop j)).extract 1 (bufP f (ps.drop j)).size = bufP f (ps.drop (j + 1)) ∧ 0 < (bufP f (ps.drop j)).size := by
  have e : ps.drop j = slAt ps j :: ps.drop (j + 1) := by
    rw [List.drop_eq_getElem_cons h]
    unfold slAt
    rw [List.getD_eq_getElem?_getD, List.getElem?_eq_getElem h]
    rfl
  rw [e]
  generalize slAt ps j = x
  generalize ps.drop (j + 1) = l
  refine ⟨by simp [bufP], ?_, by simp [bufP]⟩
  refine Array.ext' ?_
  simp [bufP, List.take_of_length_le]
theorem GatK.pack {B : Nat} {w wr : World} {v : Value} {ss : List Sk} {xss : List (List Int)} (h : GatK w.heap.size wr.heap.size wr v ss) (hs : ss.map (·.xs) = xss) (hb : Below B w wr) : NewSS B xss w (.returned v) wr := by
  obtain ⟨A, c, G, rfl, ho, hw⟩ := h.own
  have hl : ss.length = xss.length := by rw [← hs, List.length_map]
  rw [hs, hl] at ho
  rw [hl]
  exact ⟨A, c, G, rfl, ho, hw, hb⟩
set_option maxRecDepth 20000 in
set_option maxHeartbeats 2000000 in
theorem receivePieces (B c n : Nat) (f : T3) (ps : List (List Int)) (w : World) (hc : w.heap[c]? = some (.chan n (bufP f ps) true n 0 false)) (hB : B ≤ c) (hn : ps.length ≤ 1000) :
    Calls Try.prog 37 #[.chan (some c)] w (NewSS B (outP f ps) w) := by
  have hcz := (Array.getElem?_eq_some_iff.1 hc).1
  have HR0 : Hid (RRel B w (w.alloc (.cells #[] 22)) c n f ps (.slice (some ⟨w.heap.size, 0, none⟩) 0 0) 0) := by
    have h1 : Below w.heap.size w (w.alloc (.cells #[] 22)) := (Below.refl _ _).alloc (Nat.le_refl _) _
    exact ⟨(h1.block _ hcz).trans hc, h1.mono (by omega), h1.size, [], GatK.nil_ _, rfl⟩
  clear hc
  go_enter Try.func37, Try.ntmps37
  go_wp2
  go_loopw [3] (fun v wr => ∃ j : Nat, j ≤ ps.length ∧ Hid (RRel B w wr c n f ps v j)) (fun _ wr => chLen wr c)
  case atStart => exact ⟨0, Nat.zero_le _, HR0.out⟩
  case round =>
    obtain ⟨j, hj, hR⟩ := hrel
    clear HR0
    obtain ⟨k0, k1, k2, ss, k3, k4⟩ := hR.out
    by_cases hlt : j < ps.length
    · obtain ⟨d1, d2, d3⟩ := drop_buf (f := f) hlt
      have hcz2 := (Array.getElem?_eq_some_iff.1 k0).1
      have HTS := Lib.hid (Ck.take_slot hlt)
      have hssl : ss.length = j := by
        have h1 : (ss.map (·.xs)).length = (outP f (ps.take j)).length := by rw [k4]
        rw [List.length_map, outP_len, List.length_take] at h1
        omega
      have HLT := Lib.hid hlt
      have HM : Hid (chLen wr c = ps.length - j) := by show _ = _; rw [chLen_of k0, bufP_size, List.length_drop]
      clear hlt
      go_step
      go_step
      refine Chn.wp_region_to (id := 3) ?_
      refine ListTo.recv rfl rfl (c := c) (z := v3 z3) ?_ k0 d3 ?_
      · go_simp
        rfl
      rw [d1, d2]
      refine ListTo.rest (show wpList _ _ _ [_] _ _ from ?_)
      obtain ⟨W, hW⟩ : ∃ W, wr.setChan c n (bufP f (ps.drop (j + 1))) true n (j + 1) false = W := ⟨_, rfl⟩
      have hWs : W.heap.size = wr.heap.size := by rw [← hW]; exact Go.Conc.size_setChan _ _ _ _ _ _ _ _
      have hWc : W.heap[c]? = some (.chan n (bufP f (ps.drop (j + 1))) true n (j + 1) false) := by rw [← hW]; exact Go.Conc.heap_setChan _ _ _ _ _ _ _ _ hcz2
      have hWb : Below B wr W := by rw [← hW]; exact Go.Conc.below_setChan (Below.refl _ _) hB _ _ _ _ _ _
      have hWk : GatK w.heap.size W.heap.size W u3 ss := by
        refine (k3.keep (by omega) fun x h1 _ _ => ?_).mono (Nat.le_refl _) (by omega)
        rw [← hW]
        exact setChan_far _ _ _ (by omega)
      rw [hW]
      have HWC := Lib.hid hWc
      have HWB := Lib.hid (k1.trans hWb)
      have HWK := Lib.hid hWk
      have HK4 := Lib.hid k4
      have hws : w.heap.size ≤ W.heap.size := by omega
      obtain ⟨A9, m9, c9, rfl⟩ := k3.sl
      clear k0 k1 k2 k3 k4 d1 d2 d3 hR hWc hWb hWk hW hWs hcz2
      generalize hp : fil f (slAt ps j) = p
      have HPE := Lib.hid hp
      clear hp
      go_wp2_with fail
      ((with_reducible refine (pieceList p _).mono ?_); rintro e w4 ⟨b4, rfl, ho4, hlb, hlw, hb4⟩)
      have hal : Below W.heap.size W (W.alloc (.cells #[.int .i64 p.1, .int .i64 p.2.1, .int .i64 p.2.2] 52)) := (Below.refl _ _).alloc (Nat.le_refl _) _
      have hals : (W.alloc (.cells #[.int .i64 p.1, .int .i64 p.2.1, .int .i64 p.2.2] 52)).heap.size = W.heap.size + 1 := by simp
      rw [hals] at hlb
      have hb5 : Below W.heap.size W w4 := hal.trans (hb4.mono (by omega))
      have HGK := Lib.hid (HWK.out.below hb5 (Nat.le_refl _))
      have HSK : Hid (SkO w4 ⟨l3 p, some ⟨b4, 0, none⟩, 3, b4⟩) := ho4
      have HB5 := Lib.hid hb5
      have hs5 := hb5.size
      have hcw : c < W.heap.size := (Array.getElem?_eq_some_iff.1 HWC.out).1
      clear ho4 hb4 hb5 hal hals
      go_wp2_with (at_builtin; refine wpList_gatK (x := ⟨l3 p, some ⟨b4, 0, none⟩, 3, b4⟩) HGK.out HSK.out (fun y hy => by have := (mem_fp.1 hy).2; dsimp only at this; omega) hws hs5 (by omega) _ _ rfl rfl rfl (by go_simp) ?_; intro v6 w6 hg6 hb6 hk6; obtain ⟨A6, m6, c6, rfl⟩ := hg6.sl)
      have hs6 := hb6.size
      have HR6 : Hid (RRel B w w6 c n f ps (.slice A6 m6 c6) (j + 1)) := by
        refine ⟨(hk6 c (by omega) (.inl hcz)).trans ((HB5.out.block c hcw).trans HWC.out), ?_, by omega, _, hg6, ?_⟩
        · exact HWB.out.trans ((HB5.out.mono (by omega)).trans (hb6.mono (by omega)))
        · rw [List.map_append, HK4.out, ← HTS.out, outP_snoc, HPE.out]
          rfl
      have HME : Hid (chLen w6 c < chLen wr c) := by
        show _ < _
        rw [HM.out, chLen_of HR6.out.1, bufP_size, List.length_drop]
        have := HLT.out
        omega
      clear hg6 hb6 hk6 HGK HSK HB5 HWC HWB HWK
      go_wp2
      go_roundw
      case rel => exact ⟨j + 1, HLT.out, HR6.out⟩
      case measure => exact HME.out
    · obtain rfl : j = ps.length := by omega
      rw [List.drop_length] at k0
      go_step
      go_step
      refine Chn.wp_region_to (id := 3) ?_
      refine ListTo.shut rfl rfl (c := c) (z := v3 z3) ?_ k0 ?_
      · go_simp
        rfl
      refine ListTo.rest (show wpList _ _ _ [_] _ _ from ?_)
      have HP : Hid (NewSS B (outP f ps) w (.returned u3) wr) := GatK.pack k3 (by rw [k4, List.take_length]) k1
      obtain ⟨A9, m9, c9, rfl⟩ := k3.sl
      clear k0 k1 k2 k3 k4 hlt hR
      go_wp2
      go_ret
      exact HP.out

end Im11
end Go.Proofs.Ytoghgliijjfppab
