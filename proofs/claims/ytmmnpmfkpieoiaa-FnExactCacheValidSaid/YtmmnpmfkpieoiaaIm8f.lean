/-
  Contracts of the program's chapter 13: a slot more and one less; a key is put into a slot.
-/
import Derived.Test.YtmmnpmfkpieoiaaIm8e
import Derived.Test.YtmmnpmfkpieoiaaIn8
import Derived.Shelf.Slices.Empties
namespace Go.Proofs.Ytmmnpmfkpieoiaa
open Go.RowKit
namespace Im8
open Il Sl Fo Cm Cs Sg Gm

/-! ### a slot more -/
def newNd (w : World) (nd : Nd) : Nd := ⟨w.heap.size, nd.ep + 1, ⟨[], none, 0, none⟩⟩
def snocW (w : World) (nd : Nd) : World := (w.alloc (.cells #[.int .i64 (nd.ep + 1), .slice none 0 0, .pointer none] 61)).setCell ⟨nd.b, 2, none⟩ (.pointer (some ⟨w.heap.size, 0, none⟩))
theorem snocW_size (w : World) (nd : Nd) : (snocW w nd).heap.size = w.heap.size + 1 := by simp [snocW, World.setCell]
theorem snocW_old {w : World} {nd : Nd} {x : Nat} (hx : x < w.heap.size) (hne : x ≠ nd.b) : (snocW w nd).heap[x]? = w.heap[x]? :=
  (Below.heap_setCell _ _ _ _ hne).trans (((Below.refl w.heap.size w).alloc (Nat.le_refl _) _).block x hx)
theorem blk_set2 {w : World} {b : Nat} {v0 v1 v2 v : Value} {t : TypeId} (h : Blk w b #[v0, v1, v2] t) : Blk (w.setCell ⟨b, 2, none⟩ v) b #[v0, v1, v] t := by
  unfold Blk at h ⊢
  simp [World.setCell, Array.getElem?_modify, h]
theorem blk_set31 {w : World} {b : Nat} {v0 v1 v2 v : Value} {t : TypeId} (h : Blk w b #[v0, v1, v2] t) : Blk (w.setCell ⟨b, 1, none⟩ v) b #[v0, v, v2] t := by
  unfold Blk at h ⊢
  simp [World.setCell, Array.getElem?_modify, h]
theorem fpN_cons (nd : Nd) (L : List Nd) : FpN (nd :: L) = [nd.b] :: nd.s.g.toList :: FpN L := by unfold FpN; rw [List.flatMap_cons]; rfl
theorem fpN_app (P R : List Nd) : FpN (P ++ R) = FpN P ++ FpN R := by unfold FpN; rw [List.flatMap_append]
theorem foot_app {G H : List (List Nat)} : Foot (G ++ H) ↔ Foot G ∧ Foot H ∧ ∀ f ∈ G, ∀ g ∈ H, Disj f g := List.pairwise_append
theorem foot_cons {f : List Nat} {H : List (List Nat)} : Foot (f :: H) ↔ (∀ g ∈ H, Disj f g) ∧ Foot H := List.pairwise_cons
theorem chN_snoc {w : World} {nd : Nd} : ∀ {P : List Nd} {a : Option Addr}, ChN w a (P ++ [nd]) → Foot (FpN (P ++ [nd])) → ChN (snocW w nd) a (P ++ [nd, newNd w nd])
  | [], _, ⟨u, e, hb, hs, hn⟩, hf => by
    have hu : u = none := hn
    subst hu
    have hlt := hb.lt
    rw [List.nil_append, fpN_cons, foot_cons] at hf
    refine ⟨some ⟨w.heap.size, 0, none⟩, e, ?_, hs.keep fun x hx => snocW_old (hs.lt_ x hx) fun e => ?_, none, rfl, ?_, ?_, rfl⟩
    · have h1 : Blk (w.alloc (.cells #[.int .i64 (nd.ep + 1), .slice none 0 0, .pointer none] 61)) nd.b #[.int .i64 nd.ep, nd.s.cell, .pointer none] 61 := Blk.below hb ((Below.refl _ _).alloc (Nat.le_refl _) _) (Nat.le_refl _)
      exact blk_set2 h1
    · subst e
      exact hf.1 _ (List.mem_cons_self ..) nd.b (List.mem_singleton.2 rfl) hx
    · exact (blk_new w _ _).same (Below.heap_setCell _ _ _ _ (by show w.heap.size ≠ nd.b; omega))
    · exact .inl ⟨rfl, rfl, rfl, none, rfl⟩
  | z :: P, _, ⟨u, e, hb, hs, hn⟩, hf => by
    rw [List.cons_append, fpN_cons, foot_cons, foot_cons] at hf
    have hm : [nd.b] ∈ FpN (P ++ [nd]) := by rw [fpN_app, fpN_cons]; exact List.mem_append.2 (.inr (List.mem_cons_self ..))
    refine ⟨u, e, hb.same (snocW_old hb.lt fun e => ?_), hs.keep fun x hx => snocW_old (hs.lt_ x hx) fun e => ?_, chN_snoc hn hf.2.2⟩
    · exact hf.1 _ (List.mem_cons_of_mem _ hm) z.b (List.mem_singleton.2 rfl) (by rw [e]; exact List.mem_singleton.2 rfl)
    · subst e
      exact hf.2.1 _ hm _ hx (List.mem_singleton.2 rfl)
theorem foot_snoc {w : World} {nd : Nd} {P : List Nd} {lo : Nat} (hf : Foot (FpN (P ++ [nd]))) (hw : Within lo w.heap.size (FpN (P ++ [nd]))) : Foot (FpN (P ++ [nd, newNd w nd])) ∧ (lo ≤ w.heap.size → Within lo (w.heap.size + 1) (FpN (P ++ [nd, newNd w nd]))) := by
  have e : P ++ [nd, newNd w nd] = (P ++ [nd]) ++ [newNd w nd] := by simp
  have e2 : FpN [newNd w nd] = [[w.heap.size], []] := rfl
  rw [e, fpN_app, e2, foot_app]
  refine ⟨⟨hf, by simp [Foot, Disj], fun f h1 g h2 x q1 q2 => ?_⟩, fun hlo f h1 x hx => ?_⟩
  · have := hw f h1 x q1
    simp at h2
    rcases h2 with rfl | rfl
    · simp at q2; omega
    · simp at q2
  · rcases List.mem_append.1 h1 with h1 | h1
    · have := hw f h1 x hx; omega
    · simp at h1
      rcases h1 with rfl | rfl
      · simp at hx; omega
      · simp at hx
theorem chN_split {w : World} {nd : Nd} {R : List Nd} : ∀ {P : List Nd} {a : Option Addr}, ChN w a (P ++ nd :: R) → ∃ u, NdB w nd u ∧ KdO w nd.s ∧ ChN w u R
  | [], _, ⟨u, _, hb, hs, hn⟩ => ⟨u, hb, hs, hn⟩
  | _ :: _, _, ⟨_, _, _, _, hn⟩ => chN_split hn
/-- Linked slots behind the first one, and one more. -/
def TurnP (lo : Nat) (L : List (Int × List Int)) (w : World) (e : Ending) (w' : World) : Prop :=
  ∃ a L', e = .returned (.pointer a) ∧ ChG lo w'.heap.size w' a L' ∧ L'.map (fun nd => (nd.ep, nd.s.xs)) = L ∧ Below lo w w'
set_option maxRecDepth 20000 in
set_option maxHeartbeats 1000000 in
theorem turned (a : Option Addr) (n0 n1 : Nd) (L2 : List Nd) (lo : Nat) (w : World) (hch : ChG lo w.heap.size w a (n0 :: n1 :: L2)) (he : -1000 ≤ lastE (n1 :: L2) ∧ lastE (n1 :: L2) ≤ 1000) (hlo : lo ≤ w.heap.size) :
    Calls Try.prog 57 #[.pointer a] w (TurnP lo ((n1 :: L2).map (fun nd => (nd.ep, nd.s.xs)) ++ [(lastE (n1 :: L2) + 1, [])]) w) := by
  obtain ⟨u0, rfl, hb0, hs0, hn0⟩ := hch.1
  obtain ⟨p0, p1, p2, pf⟩ := nd_cells hb0
  have HCH := Lib.hid hch
  have HN0 := Lib.hid hn0
  have HB0 := Lib.hid hb0
  have hb0z := hb0.lt
  have HE := Lib.hid he
  clear hch hs0 hn0 hb0 he
  go_enter Try.func57, Try.ntmps57
  go_wp2
  go_loopg [3] (L2.length + 1) (fun g x wr => ∃ (P : List Nd) (nd : Nd) (L' : List Nd) (u : Option Addr), L'.length = g ∧ Hid (P ++ nd :: L' = n0 :: n1 :: L2) ∧ x = .pointer (some ⟨nd.b, 0, none⟩) ∧ wr = w ∧ Hid (NdB w nd u ∧ ChN w u L'))
  case atStart => exact ⟨[], n0, n1 :: L2, u0, by simp, rfl, rfl, rfl, HB0.out, HN0.out⟩
  case round =>
    obtain ⟨P, nd, L', u, hg, HP, rfl, rfl, hT⟩ := hrel
    obtain ⟨c0, c1, c2, cf⟩ := nd_cells hT.out.1
    cases L' with
    | cons nd2 L3 =>
      obtain ⟨hb, u2, rfl, hb2, hs2, hn2⟩ := hT.out
      have HN2 := Lib.hid (And.intro hb2 hn2)
      have HP2 : Hid ((P ++ [nd]) ++ nd2 :: L3 = n0 :: n1 :: L2) := by show _ = _; rw [List.append_assoc]; exact HP.out
      clear hT hb hb2 hs2 hn2
      go_wp2
      go_roundg L3.length
      case rel => exact ⟨P ++ [nd], nd2, L3, u2, rfl, HP2, rfl, rfl, HN2.out⟩
      case measure => simp at hg; omega
    | nil =>
      obtain ⟨hb, hu⟩ := hT.out
      obtain rfl : u = none := hu
      have hndz := hb.lt
      have hch := HCH.out
      rw [← HP.out] at hch
      have h1 := chN_snoc hch.1 hch.2.1
      obtain ⟨h2, h3⟩ := foot_snoc hch.2.1 hch.2.2
      have h3 := h3 hlo
      obtain ⟨P2, rfl⟩ : ∃ P2, P = n0 :: P2 := by
        have := HP.out
        cases P with
        | nil => simp at this
        | cons z P2 => rw [List.cons_append] at this; injection this with e1 e2; subst e1; exact ⟨P2, rfl⟩
      have hP2 : P2 ++ [nd] = n1 :: L2 := by
        have := HP.out
        rw [List.cons_append] at this
        injection this
      have hne : n0.b ≠ nd.b := fun e => by
        have hf := hch.2.1
        rw [List.cons_append, fpN_cons, foot_cons] at hf
        exact hf.1 [nd.b] (List.mem_cons_of_mem _ (by rw [fpN_app, fpN_cons]; exact List.mem_append.2 (.inr (List.mem_cons_self ..)))) nd.b (by rw [e]; exact List.mem_singleton.2 rfl) (List.mem_singleton.2 rfl)
      have hle : lastE (n1 :: L2) = nd.ep := by rw [← hP2, lastE_snoc]
      have hep := HE.out
      rw [hle] at hep
      obtain ⟨u9, e9, h9b, _, h9n⟩ := h1
      have h9n' := h9n
      have hb9 : NdB (snocW wr nd) n0 u0 := HB0.out.same (snocW_old hb0z hne)
      have huu : u9 = u0 := by
        have q1 := (nd_cells h9b).2.2.1
        have q2 := (nd_cells hb9).2.2.1
        rw [q1] at q2
        simpa using q2
      subst huu
      rw [List.cons_append, fpN_cons, foot_cons, foot_cons] at h2
      have HT : Hid (TurnP lo ((n1 :: L2).map (fun nd => (nd.ep, nd.s.xs)) ++ [(lastE (n1 :: L2) + 1, [])]) wr (.returned (.pointer u9)) (snocW wr nd)) := by
        refine ⟨u9, P2 ++ [nd, newNd wr nd], rfl, ⟨h9n, h2.2.2, fun f hf x hx => ?_⟩, ?_, ?_⟩
        · rw [snocW_size]
          exact h3 f (by rw [List.cons_append, fpN_cons]; exact List.mem_cons_of_mem _ (List.mem_cons_of_mem _ hf)) x hx
        · rw [show P2 ++ [nd, newNd wr nd] = (P2 ++ [nd]) ++ [newNd wr nd] by simp, hP2, List.map_append, hle]
          rfl
        · refine ⟨rfl, rfl, rfl, by rw [snocW_size]; omega, fun x hx => snocW_old (by omega) fun e => ?_⟩
          subst e
          have := hch.2.2 [nd.b] (by rw [fpN_app, fpN_cons]; exact List.mem_append.2 (.inr (List.mem_cons_self ..))) nd.b (List.mem_singleton.2 rfl)
          omega
      have hal : Below wr.heap.size wr (wr.alloc (.cells #[.int .i64 (nd.ep + 1), .slice none 0 0, .pointer none] 61)) := (Below.refl _ _).alloc (Nat.le_refl _) _
      have c2a := (hal.cell (p := ⟨nd.b, 2, none⟩) hndz).trans c2
      have cfa := (World.frozen?_of_block (a := ⟨nd.b, 2, none⟩) (hal.block nd.b hndz)).trans (cf 2)
      have e1 : IntKind.i64.wrap (nd.ep + 1) = nd.ep + 1 := IntWalk.i64_in _ (by omega)
      have q2 := (nd_cells hb9).2.2.1
      unfold snocW at q2 HT
      have hne' : (n0.b == nd.b) = false := by simpa using hne
      clear hb hT h2 h3 hch h9n h9n' hb9 h9b hP2 hle hep hal HB0 HN0
      go_wp2
      go_ret
      have HT' := HT.out
      rw [World.setCell_alloc_past _ _ _ _ hndz] at HT'
      exact HT'

/-! ### a key more -/
theorem pw_of {xs : List Int} (h : slotB xs = true) : xs.Pairwise (· < ·) := List.pairwise_iff_getElem.2 fun i j hi hj hij => by
  have := slot_lt h j i hij hj
  rw [List.getD_eq_getElem?_getD, List.getElem?_eq_getElem hi, List.getD_eq_getElem?_getD, List.getElem?_eq_getElem hj] at this
  exact this
theorem countP_place (k : Int) : ∀ {xs : List Int}, xs.Pairwise (· < ·) → xs.countP (· < k) = place xs k
  | [], _ => rfl
  | x :: xs, h => by
    rw [List.pairwise_cons] at h
    have ih := countP_place k h.2
    rw [List.countP_cons]
    unfold place
    by_cases hx : x < k
    · simp [hx, ih]
    · have h0 : xs.countP (· < k) = 0 := List.countP_eq_zero.2 fun a ha => by
        have := h.1 a ha
        simp; omega
      simp [hx, h0]
theorem search (A : Option Addr) (c lo hi : Nat) (xs : List Int) (key : Int) (w : World) (hx : Ints lo hi w A xs.length c xs) (hs : slotB xs = true) (hl : xs.length ≤ 1000) :
    Calls Try.prog 66 #[.slice A xs.length c, .int .i64 key] w fun e w' => e = .returned (.tuple #[.int .i64 (place xs key : Nat), .bool (hasK xs key)]) ∧ ∃ q, w' = w.drewN q := by
  rcases Nat.eq_zero_or_pos xs.length with h0 | h0
  · have hxs : xs = [] := List.eq_nil_of_length_eq_zero h0
    subst hxs
    refine (Any.slices_BinarySearch_int_empty Shl.sea A c key w).mono ?_
    rintro e w' ⟨rfl, rfl⟩
    exact ⟨rfl, 0, rfl⟩
  · obtain ⟨b, off, rfl, _, _, _, hc⟩ := hx.2.2.2 h0
    have hpw : (xs.take xs.length).Pairwise (· ≤ ·) := by
      rw [List.take_length]
      exact (pw_of hs).imp fun h => by omega
    refine (Any.slices_BinarySearch_int Shl.sea b off xs.length c xs key w (Nat.le_refl _) (by omega) hc hpw).mono ?_
    rintro e w' ⟨rfl, q, rfl⟩
    rw [List.take_length, countP_place key (pw_of hs)]
    exact ⟨rfl, q, rfl⟩
def codeK (xs : List Int) (key : Int) : Int := bif hasK xs key then 1 else bif decide (6 ≤ xs.length) then 3 else 0
def newK (xs : List Int) (key : Int) : List Int := bif decide (codeK xs key = 0) then insK xs key else xs
theorem code_replay {xs : List Int} {key : Int} (h : hasK xs key = true) : codeK xs key = 1 ∧ newK xs key = xs := by
  have e : codeK xs key = 1 := by unfold codeK; rw [h]; rfl
  refine ⟨e, ?_⟩
  unfold newK
  rw [e]; rfl
theorem code_full {xs : List Int} {key : Int} (h : hasK xs key = false) (h6 : 6 ≤ xs.length) : codeK xs key = 3 ∧ newK xs key = xs := by
  have e : codeK xs key = 3 := by unfold codeK; rw [h, decide_eq_true h6]; rfl
  refine ⟨e, ?_⟩
  unfold newK
  rw [e]; rfl
theorem code_done {xs : List Int} {key : Int} (h : hasK xs key = false) (h6 : ¬ 6 ≤ xs.length) : codeK xs key = 0 ∧ newK xs key = insK xs key := by
  have e : codeK xs key = 0 := by unfold codeK; rw [h, decide_eq_false h6]; rfl
  refine ⟨e, ?_⟩
  unfold newK
  rw [e]; rfl
/-- A key is put into a slot. -/
def AddP (nd : Nd) (u : Option Addr) (key : Int) (w : World) (e : Ending) (w' : World) : Prop :=
  ∃ s' : Kd, e = .returned (.int .i64 (codeK nd.s.xs key)) ∧ s'.xs = newK nd.s.xs key ∧ NdB w' ⟨nd.b, nd.ep, s'⟩ u ∧ KdO w' s' ∧ (s'.g = nd.s.g ∨ ∃ k, s'.g = some k ∧ w.heap.size ≤ k) ∧ KeptG [[nd.b], nd.s.g.toList] w w'
theorem keptG_sub {G H : List (List Nat)} {w w' : World} (h : KeptG G w w') (hs : ∀ f ∈ G, f ∈ H) : KeptG H w w' := ⟨h.os, h.tape, h.output, h.size, fun b hb hf => h.block b hb fun f hm => hf f (hs f hm)⟩
theorem keptG_drewN (G : List (List Nat)) (w : World) (q : Nat) : KeptG G w (w.drewN q) := ⟨rfl, rfl, rfl, Nat.le_refl _, fun _ _ _ => rfl⟩
set_option maxRecDepth 20000 in
set_option maxHeartbeats 1000000 in
theorem add (nd : Nd) (u : Option Addr) (key : Int) (w : World) (hb : NdB w nd u) (hs : KdO w nd.s) (hne : nd.b ∉ nd.s.g.toList) (hok : slotOk nd.s.xs = true) :
    Calls Try.prog 51 #[.pointer (some ⟨nd.b, 0, none⟩), .int .i64 key] w (AddP nd u key w) := by
  obtain ⟨c0, c1, c2, cf⟩ := nd_cells hb
  have hok2 := slotOk_iff.1 hok
  have HSB : Hid (slotB nd.s.xs = true) := by show _ = _; unfold slotOk at hok; rw [Bool.and_eq_true] at hok; exact hok.2
  have hl6 := hok2.1
  have HI := Lib.hid hs.sk.ints
  have HB := Lib.hid hb
  have HS := Lib.hid hs
  have hbz := hb.lt
  have hpl := place_le nd.s.xs key
  have HIK := Lib.hid (insK_is nd.s.xs key)
  clear hb hs hok hok2
  cases hh : hasK nd.s.xs key
  case «true» =>
    have HP : Hid (∀ q, AddP nd u key w (.returned (.int .i64 1)) (w.drewN q)) := fun q => ⟨nd.s, by rw [(code_replay hh).1], (code_replay hh).2.symm, HB.out, HS.out, .inl rfl, keptG_drewN _ _ _⟩
    go_enter Try.func51, Try.ntmps51
    go_wp2_with fail
    ((with_reducible refine (search nd.s.A nd.s.c _ _ nd.s.xs key _ HI.out HSB.out (by omega)).mono ?_); rintro e w1 ⟨rfl, q, rfl⟩)
    rw [hh]
    clear hh
    go_wp2
    go_ret
    exact HP.out q
  by_cases h6 : 6 ≤ nd.s.xs.length
  · have HP : Hid (∀ q, AddP nd u key w (.returned (.int .i64 3)) (w.drewN q)) := fun q => ⟨nd.s, by rw [(code_full hh h6).1], (code_full hh h6).2.symm, HB.out, HS.out, .inl rfl, keptG_drewN _ _ _⟩
    have h6' : ((nd.s.xs.length : Int) == 6) = true := by simp; omega
    go_enter Try.func51, Try.ntmps51
    go_wp2_with fail
    ((with_reducible refine (search nd.s.A nd.s.c _ _ nd.s.xs key _ HI.out HSB.out (by omega)).mono ?_); rintro e w1 ⟨rfl, q, rfl⟩)
    rw [hh]
    clear hh
    go_wp2
    go_ret
    exact HP.out q
  · have HC := Lib.hid (code_done hh h6)
    have h6' : ((nd.s.xs.length : Int) == 6) = false := by simp; omega
    go_enter Try.func51, Try.ntmps51
    go_wp2_with fail
    ((with_reducible refine (search nd.s.A nd.s.c _ _ nd.s.xs key _ HI.out HSB.out (by omega)).mono ?_); rintro e w1 ⟨rfl, q, rfl⟩)
    rw [hh]
    clear hh
    have HK0 := Lib.hid (keptG_drewN [[nd.b], nd.s.g.toList] w q)
    replace HB : Hid (NdB (w.drewN q) nd u) := HB.out
    replace HS : Hid (KdO (w.drewN q) nd.s) := HS.out
    replace c0 : (w.drewN q).cell? ⟨nd.b, 0, none⟩ = some (.int .i64 nd.ep) := c0
    replace c1 : (w.drewN q).cell? ⟨nd.b, 1, none⟩ = some (.slice nd.s.A nd.s.xs.length nd.s.c) := c1
    replace hbz : nd.b < (w.drewN q).heap.size := hbz
    clear c2 cf HI
    generalize w.drewN q = w1 at *
    have hal : Below w1.heap.size w1 (w1.alloc (.cells #[.int .i64 key] 3)) := (Below.refl _ _).alloc (Nat.le_refl _) _
    have HNW := Lib.hid (blk_new w1 #[.int .i64 key] 3)
    have HS2 : Hid (KdO (w1.alloc (.cells #[.int .i64 key] 3)) nd.s) := HS.out.keep fun x hx => hal.block x (HS.out.lt_ x hx)
    have hnv : w1.heap.size ∉ nd.s.g.toList := fun hx => absurd (HS.out.lt_ _ hx) (Nat.lt_irrefl _)
    have HB2 := Lib.hid (Blk.below HB.out hal (Nat.le_refl _))
    have HKA := Lib.hid (keptG_alloc [[nd.b], nd.s.g.toList] w1 (.cells #[.int .i64 key] 3))
    have c1a := (hal.cell (p := ⟨nd.b, 1, none⟩) hbz).trans c1
    clear hal
    obtain ⟨ys, hys⟩ : ∃ ys, ys = nd.s.xs.take (place nd.s.xs key) ++ key :: nd.s.xs.drop (place nd.s.xs key) := ⟨_, rfl⟩
    have HINS := Lib.hid (insert nd.s key (place nd.s.xs key) w1.heap.size _ HS2.out HNW.out hnv hpl (by omega))
    rw [← hys] at HINS HIK
    clear hys
    go_wp2_with fail
    ((with_reducible refine (HINS.out).mono ?_); rintro e w3 ⟨A3, k3, g3, rfl, hk3, hg3, hK3⟩)
    have hnb3 : ∀ f ∈ [nd.s.g.toList], nd.b ∉ f := fun f hf => by simp only [List.mem_singleton] at hf; subst hf; exact hne
    have hB3 := hK3.block nd.b HB2.out.lt hnb3
    have HB3 := Lib.hid (HB2.out.same hB3)
    have d1 := (World.cell?_of_block (a := ⟨nd.b, 1, none⟩) hB3).trans c1a
    have df := (nd_cells HB3.out).2.2.2 1
    have hgf : g3 = nd.s.g ∨ ∃ k, g3 = some k ∧ w1.heap.size ≤ k := by
      rcases hg3 with e | ⟨k, e, h⟩
      · exact .inl e
      · refine .inr ⟨k, e, ?_⟩
        rw [World.size_alloc] at h
        omega
    have hg3b : nd.b ∉ g3.toList := fun h => by
      rcases hgf with e | ⟨k, e, hk⟩
      · rw [e] at h; exact hne h
      · rw [e] at h
        simp at h
        omega
    have HP : Hid (AddP nd u key w (.returned (.int .i64 0)) (w3.setCell ⟨nd.b, 1, none⟩ (.slice A3 ys.length k3))) := by
      refine ⟨⟨ys, A3, k3, g3⟩, by rw [HC.out.1], by rw [HC.out.2, HIK.out], blk_set31 HB3.out, hk3.keep fun x hx => Below.heap_setCell _ _ _ _ (show x ≠ nd.b from fun e => hg3b (by rw [← e]; exact hx)), ?_, ?_⟩
      · rcases hgf with e | ⟨k, e, hk⟩
        · exact .inl e
        · exact .inr ⟨k, e, by have := HK0.out.size; omega⟩
      · exact HK0.out.trans (HKA.out.trans ((keptG_sub hK3 fun f hf => by simp only [List.mem_singleton] at hf; subst hf; simp).trans (keptG_cell ⟨_, List.mem_cons_self .., List.mem_singleton.2 rfl⟩ _ _)))
    clear hk3 hg3 hK3 hnb3 hB3 HB2 HB3 hgf hg3b c1a HKA
    go_wp2
    go_ret
    exact HP.out

end Im8
end Go.Proofs.Ytmmnpmfkpieoiaa
