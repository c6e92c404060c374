/-
  The contract of the program's MixFlush.
-/
import Derived.Test.YtnjcpbkpcmemeacHpz
import Derived.Test.YtnjcpbkpcmemeacIm6c
import Derived.Test.YtnjcpbkpcmemeacSp6z
namespace Go.Proofs.Ytnjcpbkpcmemeac
open Go.RowKit
namespace Im6
open Il Gm Mm Tm Lm Pm Pq Hlp5 Sl Mm6 Hp6
open Sp6 (three_cells flush_no flush_few flush_yes)

/-- A mix and a list of packets are returned, each in blocks of its own. -/
def FlushP (x : Mx) (l : List Pld) (w : World) (e : Ending) (w' : World) : Prop :=
  ∃ A c B d G C q H mid, e = .returned (.tuple #[.agg #[.int .i64 x.sec, .slice A x.seen.length c, .slice B x.pool.length d], .slice C l.length q]) ∧ MixO w' A x.seen.length c B x.pool.length d x G ∧ PoolO w' C l.length q l H ∧ Within w.heap.size mid G ∧ Within mid w'.heap.size H ∧ mid ≤ w'.heap.size ∧ w.heap.size ≤ mid ∧ Below w.heap.size w w'
theorem FlushP.b {x : Mx} {l : List Pld} {w : World} {e : Ending} {w' : World} (h : FlushP x l w e w') : Sp6.FlushB x l w e w' := by
  obtain ⟨A, c, B, d, G, C, q, H, mid, rfl, h1, h2, h3, h4, h5, h6, h7⟩ := h
  exact ⟨A, c, B, d, C, q, rfl, h1.mix fun f hf y hy => by have := h3 f hf y hy; omega, h2.pool fun f hf y hy => by have := h4 f hf y hy; omega, h7⟩
theorem flushP_few {x : Mx} {w w' : World} {C : Option Addr} {q : Nat} {e1 : Value} (hq : q ≤ maxLen) (h : MixP x (.slice C 0 q) w (.returned (.tuple #[e1, .slice C 0 q])) w') : FlushP x [] w (.returned (.tuple #[e1, .slice C 0 q])) w' := by
  obtain ⟨A, c, B, d, G, e, ho, hw, hb⟩ := h
  simp only [Ending.returned.injEq, Value.tuple.injEq, Array.mk.injEq, List.cons.injEq, and_true] at e
  subst e
  exact ⟨A, c, B, d, G, C, q, [[]], w'.heap.size, rfl, ho, PoolO.nil_ hq, hw, fun f hf y hy => by simp at hf; subst hf; simp at hy, Nat.le_refl _, hb.size, hb⟩
/-- What is in memory while packets leave the heap: the list that is passed on, and the heap. -/
def FlRel (K : Nat) (w6 wr : World) (hb k c0 c1 : Nat) (g : Option Nat) (v : Value) (os vs : List Wt) (ss : List Slot) : Prop :=
  HpS hb k wr vs ∧ (os ++ vs).Perm (deco ss) ∧ (os.Pairwise leW ∧ ∀ a ∈ os, ∀ b ∈ vs, leW a b) ∧ IsHeap leW vs vs.length ∧ Dest 39 6 g wr v os.length ((os.map (·.s)).flatMap Slot.cells) ∧ (∀ q, g = some q → K ≤ q ∧ (q < c0 ∨ c1 ≤ q) ∧ q ≠ hb ∧ q ≠ k) ∧ Cop c0 c1 wr ss ∧ (K ≤ c0 ∧ c1 ≤ wr.heap.size ∧ K ≤ hb ∧ hb < c0 ∧ K ≤ k ∧ (k < c0 ∨ c1 ≤ k)) ∧ Below K w6 wr
section
variable {K : Nat} {w6 wr w' : World} {hb k c0 c1 : Nat} {g : Option Nat} {v : Value} {os vs : List Wt} {ss : List Slot}
theorem FlRel.hp (h : FlRel K w6 wr hb k c0 c1 g v os vs ss) : HpS hb k wr vs := h.1
theorem FlRel.isH (h : FlRel K w6 wr hb k c0 c1 g v os vs ss) : IsHeap leW vs vs.length := h.2.2.2.1
theorem FlRel.dest (h : FlRel K w6 wr hb k c0 c1 g v os vs ss) : Dest 39 6 g wr v os.length ((os.map (·.s)).flatMap Slot.cells) := h.2.2.2.2.1
theorem FlRel.bel (h : FlRel K w6 wr hb k c0 c1 g v os vs ss) : Below K w6 wr := h.2.2.2.2.2.2.2.2
theorem FlRel.len (h : FlRel K w6 wr hb k c0 c1 g v os vs ss) : os.length + vs.length = ss.length := by
  have := h.2.1.length_eq
  rwa [List.length_append, deco_len] at this
/-- One packet leaves the heap .. -/
theorem FlRel.pop {q : Wt} {us : List Wt} (h : FlRel K w6 wr hb k c0 c1 g v os vs ss) (h1 : HpS hb k w' us) (h2 : (q :: us).Perm vs) (h3 : IsHeap leW us us.length) (h4 : ∀ x ∈ us, leW q x) (h5 : KeptH hb (some k) wr w') :
    HpS hb k w' us ∧ ((os ++ [q]) ++ us).Perm (deco ss) ∧ ((os ++ [q]).Pairwise leW ∧ ∀ a ∈ os ++ [q], ∀ b ∈ us, leW a b) ∧ IsHeap leW us us.length ∧ Dest 39 6 g w' v os.length ((os.map (·.s)).flatMap Slot.cells) ∧ (∀ q, g = some q → K ≤ q ∧ (q < c0 ∨ c1 ≤ q) ∧ q ≠ hb ∧ q ≠ k) ∧ Cop c0 c1 w' ss ∧ (K ≤ c0 ∧ c1 ≤ w'.heap.size ∧ K ≤ hb ∧ hb < c0 ∧ K ≤ k ∧ (k < c0 ∨ c1 ≤ k)) ∧ Below K w6 w' := by
  obtain ⟨r1, r2, ⟨r3, r3b⟩, r4, r5, r6, r7, ⟨r8, r8b, r8c, r8d, r8e, r8f⟩, r9⟩ := h
  have hlt := r1.lt
  have hmem : ∀ x, x ∈ q :: us → x ∈ vs := fun x hx => h2.mem_iff.1 hx
  refine ⟨h1, ?_, ⟨?_, ?_⟩, h3, dest_keep r5 (fun y e => h5.block y (dest_lt r5 y e) (r6 y e).2.2.1 (fun e2 => (r6 y e).2.2.2 (by simpa using e2.symm))), r6, r7.keep h5.size (fun z q1 q2 => h5.block z (by omega) (by omega) (fun e => by simp only [Option.some.injEq] at e; omega)), ⟨r8, Nat.le_trans r8b h5.size, r8c, r8d, r8e, r8f⟩, ?_⟩
  · rw [List.append_assoc]
    exact (List.Perm.append_left _ h2).trans r2
  · refine List.pairwise_append.2 ⟨r3, by simp, fun a ha b hb => ?_⟩
    rw [List.mem_singleton] at hb
    subst hb
    exact r3b a ha _ (hmem _ List.mem_cons_self)
  · intro a ha b hb
    rcases List.mem_append.1 ha with ha | ha
    · exact r3b a ha b (hmem b (List.mem_cons_of_mem _ hb))
    · rw [List.mem_singleton] at ha; subst ha; exact h4 b hb
  · exact ⟨h5.os.trans r9.os, h5.tape.trans r9.tape, h5.output.trans r9.output, Nat.le_trans r9.size h5.size, fun z hz => (h5.block z (by omega) (by omega) (fun e => by simp only [Option.some.injEq] at e; omega)).trans (r9.block z hz)⟩
/-- .. and is passed on. -/
theorem FlRel.app {q : Wt} {us : List Wt} {g' : Option Nat} {v' : Value} {wa : World} {h0 : Nat}
    (h : HpS hb k wr us ∧ ((os ++ [q]) ++ us).Perm (deco ss) ∧ ((os ++ [q]).Pairwise leW ∧ ∀ a ∈ os ++ [q], ∀ b ∈ us, leW a b) ∧ IsHeap leW us us.length ∧ Dest 39 6 g wr v os.length ((os.map (·.s)).flatMap Slot.cells) ∧ (∀ q, g = some q → K ≤ q ∧ (q < c0 ∨ c1 ≤ q) ∧ q ≠ hb ∧ q ≠ k) ∧ Cop c0 c1 wr ss ∧ (K ≤ c0 ∧ c1 ≤ wr.heap.size ∧ K ≤ hb ∧ hb < c0 ∧ K ≤ k ∧ (k < c0 ∨ c1 ≤ k)) ∧ Below K w6 wr)
    (ha : Below wr.heap.size wr wa) (hd : Dest 39 6 g' w' v' (os.length + 1) ((os.map (·.s)).flatMap Slot.cells ++ q.s.cells)) (hg : g' = g ∨ ∃ y, g' = some y ∧ wa.heap.size ≤ y) (hgr : wa.grownBy w' g) (_h0 : h0 = 0) : FlRel K w6 w' hb k c0 c1 g' v' (os ++ [q]) us ss := by
  obtain ⟨r1, r2, r3, r4, r5, r6, r7, ⟨r8, r8b, r8c, r8d, r8e, r8f⟩, r9⟩ := h
  have hlt := r1.lt
  have hs := ha.size
  have hk : ∀ z, z < wr.heap.size → (∀ y, g = some y → z ≠ y) → w'.heap[z]? = wr.heap[z]? := fun z hz hn => (hgr.block z (by omega) (fun e => hn z e.symm rfl)).trans (ha.block z hz)
  refine ⟨?_, r2, r3, r4, ?_, ?_, r7.keep (Nat.le_trans hs hgr.size) (fun z q1 q2 => hk z (by omega) fun y e => by have := r6 y e; omega), ⟨r8, by have := hgr.size; omega, r8c, r8d, r8e, r8f⟩, ?_⟩
  · obtain ⟨cap, h1, h2, h3⟩ := r1
    exact ⟨cap, (hk hb hlt.1 fun y e => by have := r6 y e; omega).trans h1, h2.block (hk k hlt.2 fun y e => by have := r6 y e; omega), h3⟩
  · rw [List.length_append, List.length_singleton, List.map_append, List.flatMap_append, List.map_singleton, List.flatMap_singleton]
    exact hd
  · intro y e
    rcases hg with rfl | ⟨y2, rfl, h2⟩
    · exact r6 y e
    · simp only [Option.some.injEq] at e
      subst e
      omega
  · exact ⟨hgr.os.trans (ha.os.trans r9.os), hgr.tape.trans (ha.tape.trans r9.tape), hgr.output.trans (ha.output.trans r9.output), by have := hgr.size; have := r9.size; omega, fun z hz => (hk z (by have := r9.size; omega) fun y e => by have := r6 y e; omega).trans (r9.block z hz)⟩
/-- All have been passed on: the list is the sorted pool, and it is the caller's own. -/
theorem FlRel.done (h : FlRel K w6 wr hb k c0 c1 g v os [] ss) : ∃ C q H, v = .slice C (sortP (ss.map (·.p))).length q ∧ PoolO wr C (sortP (ss.map (·.p))).length q (sortP (ss.map (·.p))) H ∧ Within K wr.heap.size H := by
  obtain ⟨r1, r2, ⟨r3, r3b⟩, r4, r5, r6, r7, ⟨r8, r8b, r8c, r8d, r8e, r8f⟩, r9⟩ := h
  rw [List.append_nil] at r2
  have hp := popped r2 r3
  have hl : os.length = (sortP (ss.map (·.p))).length := by rw [← hp, List.length_map]
  have hperm : (os.map (·.s)).Perm ss := by
    have := r2.map (·.s)
    have e : (deco ss).map (·.s) = ss := by
      unfold deco
      rw [List.map_map]
      show ss.zipIdx.map (fun x => x.1) = ss
      exact List.zipIdx_map_fst 0 ss
    rwa [e] at this
  have hmap : (os.map (·.s)).map (·.p) = sortP (ss.map (·.p)) := by rw [List.map_map]; exact hp
  rw [hl] at r5
  have hfp : (os.map (·.s)).map fpS |>.Perm (ss.map fpS) := hperm.map _
  have hfoot : Foot ((os.map (·.s)).map fpS) := ⟨hfp.symm.pairwise r7.2.1.1 (fun hxy y q1 q2 => hxy y q2 q1), fun f hf => r7.2.1.2 f (hfp.mem_iff.1 hf)⟩
  have hwin : Within c0 c1 ((os.map (·.s)).map fpS) := fun f hf y hy => r7.2.2 f (hfp.mem_iff.1 hf) y hy
  have hso : ∀ s ∈ os.map (·.s), SlotO wr s := fun s hs => r7.1 s (hperm.mem_iff.1 hs)
  rcases r5 with ⟨rfl, hn, hv, A, rfl⟩ | ⟨y, rfl, ha⟩
  · rw [hn]
    have e0 : sortP (ss.map (·.p)) = [] := List.eq_nil_of_length_eq_zero hn
    rw [e0]
    exact ⟨A, 0, [[]], rfl, PoolO.nil_ (Nat.zero_le _), fun f hf y hy => by simp at hf; subst hf; simp at hy⟩
  · obtain ⟨cap, rfl, hr⟩ := ha.row
    have hyb := r6 y rfl
    refine ⟨some ⟨y, 0, none⟩, cap, fp (sortP (ss.map (·.p))).length y :: (os.map (·.s)).map fpS, rfl, ⟨y, os.map (·.s), hmap, hr, hso, rfl, foot_cons hfoot (fp_nodup _ _) fun f hf z q1 q2 => ?_⟩, fun f hf z hz => ?_⟩
    · obtain ⟨_, rfl⟩ := mem_fp.1 q1
      have := hwin f hf z q2
      omega
    · rcases List.mem_cons.1 hf with rfl | hf
      · obtain ⟨_, rfl⟩ := mem_fp.1 hz
        exact ⟨hyb.1, ha.lt⟩
      · have := hwin f hf z hz
        omega
end
theorem fieldWt (a b c d e f g : Value) (w : World) : (Instr.field 68 (.agg #[a, b, c, d, e, f, g]) 0).run Try.prog w = .ok (.agg #[a, b, c, d, e, f]) w := by kernel_rfl
def slen : Value → Nat
  | .slice _ n _ => n
  | _ => 0
theorem blk_lt' {w : World} {b : Nat} {cs : Array Value} {t : TypeId} (h : Blk w b cs t) : b < w.heap.size := (Array.getElem?_eq_some_iff.1 h).1
set_option maxRecDepth 20000 in
set_option maxHeartbeats 2000000 in
theorem MixFlushP (x : Mx) (all : Bool) (A B : Option Addr) (c d lo hi : Nat) (w : World) (hx : MixR lo hi w A x.seen.length c B x.pool.length d x) :
    Calls Try.prog 10 #[.agg #[.int .i64 x.sec, .slice A x.seen.length c, .slice B x.pool.length d], .bool all] w (FlushP (flushM x all) (flushL x all) w) := by
  obtain ⟨zb0, zb1, hs2, hb2⟩ := Sp6.two_blocks w #[.int .i64 x.sec, .slice A x.seen.length c, .slice B x.pool.length d] #[.int .i64 0, .slice none 0 0, .slice none 0 0] 26 26
  have HX := Lib.hid ((hx.top (lo2 := 0) (Nat.zero_le _)).below hb2 (Nat.le_refl _))
  have Z0 := Lib.hid zb0
  have Z2 := Lib.hid zb1
  have HB := Lib.hid hb2
  have hsz : w.heap.size + 1 < ((w.alloc (.cells #[.int .i64 x.sec, .slice A x.seen.length c, .slice B x.pool.length d] 26)).alloc (.cells #[.int .i64 0, .slice none 0 0, .slice none 0 0] 26)).heap.size := by rw [hs2]; omega
  clear hx zb0 zb1 hs2 hb2
  go_enter Try.func10, Try.ntmps10
  go_wp2_with fail
  generalize ((w.alloc (.cells #[.int .i64 x.sec, .slice A x.seen.length c, .slice B x.pool.length d] 26)).alloc (.cells #[.int .i64 0, .slice none 0 0, .slice none 0 0] 26)) = w2 at *
  ((with_reducible refine (MixValid x _ _ _ _ _ _ _ _ _ HX.out).mono ?_); rintro e w3 ⟨rfl, hb3⟩)
  have hs3 := hb3.size
  replace HX := Lib.hid (HX.out.below hb3 (Nat.le_refl _))
  replace Z0 := Lib.hid (Z0.out.below hb3 (Nat.le_refl _))
  replace Z2 := Lib.hid (Z2.out.below hb3 (Nat.le_refl _))
  replace HB := Lib.hid (HB.out.trans (hb3.mono HB.out.size))
  clear hb3
  cases hok : mixOk x
  · have HM := Lib.hid (flush_no (all := all) hok)
    clear hok
    have hal : Below w3.heap.size w3 (w3.alloc (.cells #[] 39)) := (Below.refl _ _).alloc (Nat.le_refl _) _
    obtain ⟨r0, r1, r2, rf⟩ := three_cells (Z2.out.below hal (Nat.le_refl _))
    have HBA := Lib.hid (HB.out.trans (hal.mono HB.out.size))
    clear hal
    go_upto_region 2 with (fail)
    go_wp2
    refine bodyPost_ret (v := .tuple #[.agg #[.int .i64 0, .slice none 0 0, .slice none 0 0], .slice (some ⟨w3.heap.size, 0, none⟩) 0 0]) ?_ rfl ?_
    · rw [results_cell_tmp rfl]
      go_simp
    · rw [HM.out.1, HM.out.2]
      exact flushP_few (Nat.zero_le _) (mixP_zero _ (by
        repeat first | exact HB.out | exact HBA.out | (refine Below.setCell ?_ (show w.heap.size ≤ w.heap.size + 1 by omega) _) | (refine Below.alloc ?_ (by have := HB.out.size; simp [World.setCell]; omega) _)))
  have HOK := Lib.hid hok
  clear hok
  obtain ⟨q1, q2, q3⟩ := Sp6.mix_sizes HOK.out
  have HH : Hid (∀ p ∈ x.pool, p.pk.hd.length ≤ 1000 ∧ p.pk.bd.length ≤ 1000) := fun p hp => by have := q3 p hp; omega
  clear q3
  obtain ⟨a0, a1, a2, af⟩ := three_cells Z0.out
  go_wp2_with fail
  ((with_reducible refine (copyMix x _ _ _ _ _ _ _ HX.out (by omega) (by omega) HH.out).mono ?_); rintro e w4 ⟨A3, c3, B3, d3, mid, rfl, hmg, hb4⟩)
  have hs4 := hb4.size
  replace HX := Lib.hid (HX.out.below hb4 (Nat.le_refl _))
  replace Z0 := Lib.hid (Z0.out.below hb4 (Nat.le_refl _))
  replace Z2 := Lib.hid (Z2.out.below hb4 (Nat.le_refl _))
  replace HB := Lib.hid (HB.out.trans (hb4.mono HB.out.size))
  have HMG := Lib.hid hmg
  clear hb4 hmg a0 a1 a2 af
  have hal : Below w4.heap.size w4 (w4.alloc (.cells #[.int .i64 x.sec, .slice A3 x.seen.length c3, .slice B3 x.pool.length d3] 26)) := (Below.refl _ _).alloc (Nat.le_refl _) _
  have Z6 : Hid (Blk (w4.alloc (.cells #[.int .i64 x.sec, .slice A3 x.seen.length c3, .slice B3 x.pool.length d3] 26)) w4.heap.size #[.int .i64 x.sec, .slice A3 x.seen.length c3, .slice B3 x.pool.length d3] 26) := heap_alloc_new _ _
  replace HX := Lib.hid (HX.out.below hal (Nat.le_refl _))
  replace Z0 := Lib.hid (Z0.out.below hal (Nat.le_refl _))
  replace Z2 := Lib.hid (Z2.out.below hal (Nat.le_refl _))
  replace HB := Lib.hid (HB.out.trans (hal.mono HB.out.size))
  replace HMG := Lib.hid (HMG.out.below hal (Nat.le_refl _))
  have hs5 : w4.heap.size < (w4.alloc (.cells #[.int .i64 x.sec, .slice A3 x.seen.length c3, .slice B3 x.pool.length d3] 26)).heap.size := by simp
  clear hal
  go_upto_region 4 with (fail)
  generalize (w4.alloc (.cells #[.int .i64 x.sec, .slice A3 x.seen.length c3, .slice B3 x.pool.length d3] 26)) = w5 at *
  have hal : Below w5.heap.size w5 (w5.alloc (.cells #[] 39)) := (Below.refl _ _).alloc (Nat.le_refl _) _
  have HMGA := Lib.hid (HMG.out.below hal (Nat.le_refl _))
  have Z2A := Lib.hid (Z2.out.below hal (Nat.le_refl _))
  have Z6A := Lib.hid (Z6.out.below hal (Nat.le_refl _))
  have HBA := Lib.hid (HB.out.trans (hal.mono HB.out.size))
  have hs6 : w5.heap.size < (w5.alloc (.cells #[] 39)).heap.size := by simp
  clear hal
  obtain ⟨a0, a1, a2, af⟩ := three_cells Z0.out
  obtain ⟨u0, u1, u2, uf⟩ := three_cells Z6.out
  by_cases hfew : x.pool.length < 2 ∧ all = false
  · obtain ⟨h2, h3⟩ := hfew
    have HM := Lib.hid (flush_few HOK.out h2 h3)
    have e2 : decide ((x.pool.length : Int) < 2) = true := by simp; omega
    subst h3
    obtain ⟨r0, r1, r2, rf⟩ := three_cells Z2A.out
    obtain ⟨y0, y1, y2, yf⟩ := three_cells Z6A.out
    go_wp2
    refine bodyPost_ret (v := .tuple #[.agg #[.int .i64 x.sec, .slice A3 x.seen.length c3, .slice B3 x.pool.length d3], .slice (some ⟨w5.heap.size, 0, none⟩) 0 0]) ?_ rfl ?_
    · rw [results_cell_tmp rfl]
      go_simp
    · rw [HM.out.1, HM.out.2]
      exact flushP_few (Nat.zero_le _) (mixP_fin HMGA.out (by omega) (by omega) (by omega) HBA.out _ _ _ _)
  have HM := Lib.hid (flush_yes (all := all) HOK.out (by
      by_cases h2 : x.pool.length < 2
      · right
        cases all
        · exact absurd ⟨h2, rfl⟩ hfew
        · rfl
      · exact .inl h2))
  have hk : ∀ y, y < w5.heap.size → y ≠ w4.heap.size → ((w5.setCell ⟨w4.heap.size, 2, none⟩ (.slice (some ⟨w5.heap.size, 0, none⟩) 0 0)).alloc (.cells #[] 39)).heap[y]? = w5.heap[y]? := fun y q1 q2 =>
    (Below.heap_alloc _ _ _ (by simpa [World.setCell] using q1)).trans (Below.heap_setCell _ _ _ _ q2)
  have hs7 : ((w5.setCell ⟨w4.heap.size, 2, none⟩ (.slice (some ⟨w5.heap.size, 0, none⟩) 0 0)).alloc (.cells #[] 39)).heap.size = w5.heap.size + 1 := by simp [World.setCell]
  obtain ⟨g8, hd8, hg8⟩ := HMG.out.1
  have hdl8 := dest_lt hd8
  have hmid := HMG.out.2.2.2
  have SEEN := Lib.hid (dest_keep hd8 (w' := ((w5.setCell ⟨w4.heap.size, 2, none⟩ (.slice (some ⟨w5.heap.size, 0, none⟩) 0 0)).alloc (.cells #[] 39))) (fun y e => hk y (hdl8 y e) (by have := hg8 y e; omega)))
  have HG8 := Lib.hid hg8
  have HX7 : Hid (Pool 0 w.heap.size ((w5.setCell ⟨w4.heap.size, 2, none⟩ (.slice (some ⟨w5.heap.size, 0, none⟩) 0 0)).alloc (.cells #[] 39)) B x.pool.length d x.pool) := HX.out.2.keep (by omega) (fun y q1 q2 q3 => hk y q3 (by omega))
  have Z67 : Hid (Blk ((w5.setCell ⟨w4.heap.size, 2, none⟩ (.slice (some ⟨w5.heap.size, 0, none⟩) 0 0)).alloc (.cells #[] 39)) w4.heap.size #[.int .i64 x.sec, .slice A3 x.seen.length c3, .slice (some ⟨w5.heap.size, 0, none⟩) 0 0] 26) := (Below.heap_alloc _ _ _ (by simpa [World.setCell] using hs5)).trans (Sp6.blk3_set2 Z6.out)
  have Z07 : Hid (Blk ((w5.setCell ⟨w4.heap.size, 2, none⟩ (.slice (some ⟨w5.heap.size, 0, none⟩) 0 0)).alloc (.cells #[] 39)) w.heap.size #[.int .i64 x.sec, .slice A x.seen.length c, .slice B x.pool.length d] 26) := (hk _ (by omega) (by omega)).trans Z0.out
  have Z27 : Hid (Blk ((w5.setCell ⟨w4.heap.size, 2, none⟩ (.slice (some ⟨w5.heap.size, 0, none⟩) 0 0)).alloc (.cells #[] 39)) (w.heap.size + 1) #[.int .i64 0, .slice none 0 0, .slice none 0 0] 26) := (hk _ (by omega) (by omega)).trans Z2.out
  have HB7 : Hid (Below w.heap.size w ((w5.setCell ⟨w4.heap.size, 2, none⟩ (.slice (some ⟨w5.heap.size, 0, none⟩) 0 0)).alloc (.cells #[] 39))) := (HB.out.setCell (show w.heap.size ≤ w4.heap.size by omega) _).alloc (by have := HB.out.size; simp [World.setCell]; omega) _
  have hs7' : w5.heap.size < ((w5.setCell ⟨w4.heap.size, 2, none⟩ (.slice (some ⟨w5.heap.size, 0, none⟩) 0 0)).alloc (.cells #[] 39)).heap.size := by omega
  clear hk hs7 hd8 hg8 hdl8 HMGA Z2A Z6A HBA hs6
  by_cases h2 : x.pool.length < 2
  case' pos =>
    have hall : all = true := by
      cases all
      · exact absurd ⟨h2, rfl⟩ hfew
      · rfl
    subst hall
    have e2 : decide ((x.pool.length : Int) < 2) = true := by simp; omega
  case' neg =>
    have e2 : decide ((x.pool.length : Int) < 2) = false := by simp; omega
  all_goals
    clear hfew
    go_upto_region 7 with (fail)
    clear a0 a1 a2 af u0 u1 u2 uf
    generalize ((w5.setCell ⟨w4.heap.size, 2, none⟩ (.slice (some ⟨w5.heap.size, 0, none⟩) 0 0)).alloc (.cells #[] 39)) = w6 at *
    have hal7 : Below w6.heap.size w6 (w6.alloc (.cells #[] 39)) := (Below.refl _ _).alloc (Nat.le_refl _) _
    have hac7 := accV_new w6 39 6
    replace SEEN := Lib.hid (dest_keep SEEN.out (fun y e => hal7.block y (dest_lt SEEN.out y e)))
    replace HX7 := Lib.hid (HX7.out.below hal7 (Nat.le_refl _))
    have hlt6 := blk_lt' Z67.out
    replace Z67 := Lib.hid (Z67.out.below hal7 (Nat.le_refl _))
    replace Z07 := Lib.hid (Z07.out.below hal7 (Nat.le_refl _))
    replace Z27 := Lib.hid (Z27.out.below hal7 (Nat.le_refl _))
    replace HB7 := Lib.hid (HB7.out.trans (hal7.mono HB7.out.size))
    have HAC := Lib.hid hac7
    have hs77 : w6.heap.size < (w6.alloc (.cells #[] 39)).heap.size := by simp
    clear hal7 hac7
    go_upto_region 8 with (fail)
    generalize (w6.alloc (.cells #[] 39)) = w7 at *
    obtain ⟨a0, a1, a2, af⟩ := three_cells Z07.out
    go_wp2_with fail
    ((with_reducible refine (heapOf _ _ _ _ _ x.pool _ HX7.out (by omega) HH.out).mono ?_); rintro e w8 ⟨hb, k, vs, ss, c0, c1, rfl, h1, h2b, h3, h4, h5, ⟨j1, j2, j3, j4, j5, j6⟩, hbw⟩)
    clear a0 a1 a2 af
    have HF : Hid (FlRel w6.heap.size w7 w8 hb k c0 c1 (some w6.heap.size) (.slice (some ⟨w6.heap.size, 0, none⟩) 0 0) [] vs ss) :=
      ⟨h1, h2b, ⟨List.Pairwise.nil, fun a h => by simp at h⟩, h3, .inr ⟨_, rfl, HAC.out.block (hbw.block _ (by omega))⟩, fun q e => by simp only [Option.some.injEq] at e; subst e; omega, h5, ⟨by omega, j6, by omega, j2, by omega, j4⟩, hbw.mono (by omega)⟩
    have HSS := Lib.hid h4
    clear h1 h2b h3 h4 h5 hbw HX7 HAC
    go_wp2
    go_loopw [7] (fun v wr => ∃ (A : Option Addr) (c k : Nat) (g : Option Nat) (os vs : List Wt), v = .slice A os.length c ∧ Hid (FlRel w6.heap.size w7 wr hb k c0 c1 g (.slice A os.length c) os vs ss)) (fun v _ => ss.length - slen v)
    case atStart => exact ⟨_, 0, k, _, [], vs, rfl, HF.out⟩
    case round =>
      clear HF
      obtain ⟨AP, cP, k, g, os, vs, rfl, hF⟩ := hrel
      obtain ⟨cap, hz, ha, hne⟩ := hF.out.hp
      obtain ⟨hc, _⟩ := one_cell hz
      have hln := hF.out.len
      clear hz ha hne
      by_cases hv : vs.length = 0
      · obtain rfl : vs = [] := List.eq_nil_of_length_eq_zero hv
        have Z6r : Hid (Blk wr w4.heap.size #[.int .i64 x.sec, .slice A3 x.seen.length c3, .slice (some ⟨w5.heap.size, 0, none⟩) 0 0] 26) := (hF.out.bel.block _ hlt6).trans Z67.out
        have Z2r : Hid (Blk wr (w.heap.size + 1) #[.int .i64 0, .slice none 0 0, .slice none 0 0] 26) := (hF.out.bel.block _ (by omega)).trans Z27.out
        obtain ⟨u0, u1, u2, uf⟩ := three_cells Z6r.out
        obtain ⟨r0, r1, r2, rf⟩ := three_cells Z2r.out
        have hne2 : w4.heap.size ≠ w.heap.size + 1 := by omega
        clear hv hln
        go_wp2_with fail
        ((with_reducible refine (heapLen _ _ _ _).mono ?_); rintro e w9 ⟨rfl, rfl⟩)
        go_wp2
        refine bodyPost_ret (v := .tuple #[.agg #[.int .i64 x.sec, .slice A3 x.seen.length c3, .slice (some ⟨w5.heap.size, 0, none⟩) 0 0], .slice AP os.length cP]) ?_ rfl ?_
        · rw [results_cell_tmp rfl]
          go_simp
        · rw [HM.out.1, HM.out.2]
          obtain ⟨C, q, H, e9, hpo, hwi⟩ := hF.out.done
          rw [HSS.out] at e9 hpo
          have hbel := hF.out.bel
          have hsw : wr.heap.size ≤ (((wr.setCell ⟨w.heap.size + 1, 0, none⟩ (.int .i64 x.sec)).setCell ⟨w.heap.size + 1, 1, none⟩ (.slice A3 x.seen.length c3)).setCell ⟨w.heap.size + 1, 2, none⟩ (.slice (some ⟨w5.heap.size, 0, none⟩) 0 0)).heap.size := by simp [World.setCell]
          have hfar : ∀ z, z ≠ w.heap.size + 1 → (((wr.setCell ⟨w.heap.size + 1, 0, none⟩ (.int .i64 x.sec)).setCell ⟨w.heap.size + 1, 1, none⟩ (.slice A3 x.seen.length c3)).setCell ⟨w.heap.size + 1, 2, none⟩ (.slice (some ⟨w5.heap.size, 0, none⟩) 0 0)).heap[z]? = wr.heap[z]? := fun z hz => Sp6.farb3 hz _ _ _
          have hd7 := dest_keep (dest_keep SEEN.out (w' := wr) (fun y e => hbel.block y (by have := HG8.out y e; omega))) (w' := (((wr.setCell ⟨w.heap.size + 1, 0, none⟩ (.int .i64 x.sec)).setCell ⟨w.heap.size + 1, 1, none⟩ (.slice A3 x.seen.length c3)).setCell ⟨w.heap.size + 1, 2, none⟩ (.slice (some ⟨w5.heap.size, 0, none⟩) 0 0))) (fun y e => hfar y (by have := HG8.out y e; omega))
          have HG := HG8.out
          obtain ⟨A9, c9, b9, e8, ho9, hb9⟩ := dest_ints hd7
          simp only [Value.slice.injEq, true_and] at e8
          obtain ⟨rfl, rfl⟩ := e8
          obtain ⟨G, hG, hGw⟩ := Sl.mix_of (x := ⟨x.sec, x.seen, []⟩) (lo := w.heap.size) (hi := w6.heap.size) ho9 (PoolO.nil_ (w := (((wr.setCell ⟨w.heap.size + 1, 0, none⟩ (.int .i64 x.sec)).setCell ⟨w.heap.size + 1, 1, none⟩ (.slice A3 x.seen.length c3)).setCell ⟨w.heap.size + 1, 2, none⟩ (.slice (some ⟨w5.heap.size, 0, none⟩) 0 0))) (A := some ⟨w5.heap.size, 0, none⟩) (c := 0) (Nat.zero_le _)) (fun f hf y hy => by simp at hf; subst hf; simp at hy) (fun hn => by
            obtain ⟨y, e, _⟩ := dest_blk hd7 hn
            have := hb9 y e
            have := HG y e
            exact ⟨by omega, by omega, fun f hf hm => by simp at hf; subst hf; simp at hm⟩)
          rw [e9]
          refine ⟨A3, c3, _, 0, G, C, q, H, w6.heap.size, rfl, hG, hpo.keep hsw (fun f hf y hy => hfar y (by have := hwi f hf y hy; omega)), hGw, fun f hf y hy => by have := hwi f hf y hy; omega, by have := hbel.size; omega, by omega, ?_⟩
          exact (((HB7.out.trans (hbel.mono (by omega))).setCell (p := ⟨w.heap.size + 1, 0, none⟩) (show w.heap.size ≤ w.heap.size + 1 by omega) _).setCell (p := ⟨w.heap.size + 1, 1, none⟩) (show w.heap.size ≤ w.heap.size + 1 by omega) _).setCell (p := ⟨w.heap.size + 1, 2, none⟩) (show w.heap.size ≤ w.heap.size + 1 by omega) _
      · obtain ⟨m, hm⟩ : ∃ m, vs.length = m + 1 := ⟨vs.length - 1, by omega⟩
        have hI := hF.out.isH
        rw [hm] at hI hln hc
        have HI := Lib.hid hI
        have HM2 := Lib.hid hm
        have HPP := Lib.hid hF.out.hp
        have hsl : ss.length ≤ 5 := by have := congrArg List.length HSS.out; rw [List.length_map] at this; omega
        clear hv hI hm
        go_wp2_with fail
        ((with_reducible refine (heapLen _ _ _ _).mono ?_); rintro e w9 ⟨rfl, rfl⟩)
        go_wp2_with fail
        ((with_reducible refine (hPop hb k m vs _ HPP.out HM2.out (by omega) HI.out).mono ?_); rintro e w10 ⟨rfl, us, p1, p2, p3, p4, p5, p6⟩)
        have hpop := hF.out.pop p1 p3 (by rw [p2]; exact p4) p5 p6
        have HPO := Lib.hid hpop
        have hta := assertWt
        have hft := fieldWt
        unfold wagg
        clear p1 p2 p3 p4 p5 p6 hpop hF HPP HI HM2 hc
        generalize at_ vs 0 = q at *
        have hal : Below w10.heap.size w10 (w10.alloc (.cells #[.int .i64 q.s.p.kind, .int .i64 q.s.p.next, .int .i64 q.s.p.pk.el, .slice q.s.A q.s.p.pk.hd.length q.s.c, .int .i64 q.s.p.pk.tag, .slice q.s.B q.s.p.pk.bd.length q.s.d] 39)) := (Below.refl _ _).alloc (Nat.le_refl _) _
        have HD : Hid (Dest 39 6 g (w10.alloc (.cells #[.int .i64 q.s.p.kind, .int .i64 q.s.p.next, .int .i64 q.s.p.pk.el, .slice q.s.A q.s.p.pk.hd.length q.s.c, .int .i64 q.s.p.pk.tag, .slice q.s.B q.s.p.pk.bd.length q.s.d] 39)) (.slice AP os.length cP) os.length ((os.map (·.s)).flatMap Slot.cells)) := dest_keep HPO.out.2.2.2.2.1 (fun y e => hal.block y (dest_lt HPO.out.2.2.2.2.1 y e))
        have HRW : Hid (Row w10.heap.size (w10.heap.size + 1) (w10.alloc (.cells #[.int .i64 q.s.p.kind, .int .i64 q.s.p.next, .int .i64 q.s.p.pk.el, .slice q.s.A q.s.p.pk.hd.length q.s.c, .int .i64 q.s.p.pk.tag, .slice q.s.B q.s.p.pk.bd.length q.s.d] 39)) (some ⟨w10.heap.size, 0, none⟩) 1 1 6 q.s.cells) := row_lit w10 39 q.s.cells rfl
        have HAL := Lib.hid hal
        clear hal
        go_wp2_with (at_builtin; refine wpList_appD elPld g _ _ os.length _ HD.out _ _ _ 1 1 q.s.cells HRW.out (cells_one q.s) (by omega) _ _ rfl rfl rfl rfl ?_; intro g2 v2 w11 hd2 hg2 hgr2)
        obtain ⟨A2, c2, rfl, _, _, _⟩ := dest_form hd2
        have HF2 := Lib.hid (FlRel.app (h0 := 0) HPO.out HAL.out hd2 hg2 hgr2 rfl)
        clear hd2 hg2 hgr2 HD HRW HAL HPO hta hft
        go_wp2
        go_roundw
        case rel => exact ⟨A2, c2, k, g2, os ++ [q], us, by rw [List.length_append]; rfl, by rw [List.length_append]; exact HF2.out⟩
        case measure => simp [slen]; omega

end Im6
end Go.Proofs.Ytnjcpbkpcmemeac
