/-
  Contracts of the program's chapter 22: replies.
-/
import Derived.Test.YtljfhddgifacnaaIm5e
import Derived.Test.YtljfhddgifacnaaRp
import Derived.Laws.ResultCell
import Derived.Deep.RegionHeld3
namespace Go.Proofs.Ytljfhddgifacnaa
open Go.RowKit
namespace Im10
open Il Gm Mm Tm Lm Pm Pq Hlp5 Rm Cl Rp

/-- The packet of a head around a body: the header is a copy. -/
def WithB (el tag : Int) (hd : List Int) (B : Option Addr) (m d : Nat) (w : World) (e : Ending) (w' : World) : Prop :=
  ∃ A c b, e = .returned (.agg #[.int .i64 el, .slice A hd.length c, .int .i64 tag, .slice B m d]) ∧ Il.Own b (b + 1) w' A hd.length c hd ∧ (0 < hd.length → w.heap.size ≤ b ∧ b < w'.heap.size) ∧ Below w.heap.size w w'
set_option maxRecDepth 20000 in
theorem withBody (el tag : Int) (hd : List Int) (A B : Option Addr) (c m d lo hi : Nat) (w : World) (hx : Ints lo hi w A hd.length c hd) (hn : hd.length ≤ 2000000) :
    Calls Try.prog 64 #[.agg #[.int .i64 el, .slice A hd.length c, .int .i64 tag], .slice B m d] w (WithB el tag hd B m d w) := by
  obtain ⟨zb0, zb1, hs2, hb2⟩ := two_blk w #[.int .i64 el, .slice A hd.length c, .int .i64 tag] #[.int .i64 0, .slice none 0 0, .int .i64 0, .slice none 0 0] 78 39
  have HX := Lib.hid (hx.below hb2 (Nat.le_refl _))
  have Z0 := Lib.hid zb0
  have Z1 := Lib.hid zb1
  have HB := Lib.hid hb2
  have HSZ := Lib.hid hs2
  clear hx zb0 zb1 hs2 hb2
  go_enter Try.func64, Try.ntmps64
  go_wp2_with fail
  generalize ((w.alloc (.cells #[.int .i64 el, .slice A hd.length c, .int .i64 tag] 78)).alloc (.cells #[.int .i64 0, .slice none 0 0, .int .i64 0, .slice none 0 0] 39)) = w0 at *
  have SA : Hid (w0.drew.cell? ⟨w.heap.size, 0, none⟩ = some (.int .i64 el) ∧ w0.drew.cell? ⟨w.heap.size, 1, none⟩ = some (.slice A hd.length c) ∧ w0.drew.cell? ⟨w.heap.size, 2, none⟩ = some (.int .i64 tag)) := ⟨(three_cl Z0.out).1, (three_cl Z0.out).2.1, (three_cl Z0.out).2.2.1⟩
  have HNE : Hid (w.heap.size ≠ w.heap.size + 1) := by show _ ≠ _; omega
  have I1 : Hid (Ints lo hi w0.drew A hd.length c hd) := HX.out
  go_region_held3 (fun w' => w'.cell? ⟨w.heap.size, 0, none⟩ = some (.int .i64 el) ∧ w'.cell? ⟨w.heap.size, 1, none⟩ = some (.slice A hd.length c) ∧ w'.cell? ⟨w.heap.size, 2, none⟩ = some (.int .i64 tag))
    (first | with_reducible exact SA.out | with_reducible exact kB | with_reducible exact ⟨(far03 HNE.out _ _ _ _).trans kB.1, (far03 HNE.out _ _ _ _).trans kB.2.1, (far03 HNE.out _ _ _ _).trans kB.2.2⟩ | fail)
    (first
    | (go_at_call 102; (with_reducible refine (cloneI _ _ _ _ hd _ I1.out hn).mono ?_); rintro e w5 ⟨A5, c5, b5, rfl, ho5, hr5, hb50⟩; have hb5 : Below w0.heap.size w0 w5 := below_drew hb50; have h5 := Z0.out.below hb5 (Nat.le_refl _); have kB : (w5.cell? ⟨w.heap.size, 0, none⟩ = some (.int .i64 el) ∧ w5.cell? ⟨w.heap.size, 1, none⟩ = some (.slice A hd.length c) ∧ w5.cell? ⟨w.heap.size, 2, none⟩ = some (.int .i64 tag)) := ⟨(three_cl h5).1, (three_cl h5).2.1, (three_cl h5).2.2.1⟩; obtain ⟨r0, r1, r2, r3, rf⟩ := four_cells (Z1.out.below hb5 (Nat.le_refl _)))
    | fail)
  all_goals
    have hs0 := HSZ.out
    have hs5 := hb5.size
    have hw0 : w0.drew.heap.size = w0.heap.size := rfl
    have HP : Hid (WithB el tag hd B m d w (.returned (.agg #[.int .i64 el, .slice A5 hd.length c5, .int .i64 tag, .slice B m d])) ((((w5.setCell ⟨w.heap.size + 1, 0, none⟩ (.int .i64 el)).setCell ⟨w.heap.size + 1, 1, none⟩ (.slice A5 hd.length c5)).setCell ⟨w.heap.size + 1, 2, none⟩ (.int .i64 tag)).setCell ⟨w.heap.size + 1, 3, none⟩ (.slice B m d))) := by
      have hsz := size03 w5 (w.heap.size + 1) (.int .i64 el) (.slice A5 hd.length c5) (.int .i64 tag) (.slice B m d)
      rcases Nat.eq_zero_or_pos hd.length with hz | hp
      · have hnil : hd = [] := List.eq_nil_of_length_eq_zero hz
        subst hnil
        exact ⟨A5, c5, b5, rfl, ⟨⟨ho5.1.1, ho5.1.2.1, ho5.1.2.2.1, fun h => absurd h (by simp)⟩, fun _ _ h => absurd h (by simp)⟩, fun h => absurd h (by simp), below03 (HB.out.trans (hb5.mono HB.out.size)) (by omega) _ _ _ _⟩
      · obtain ⟨q1, q2⟩ := hr5 hp
        rw [hw0] at q1
        exact ⟨A5, c5, b5, rfl, Il.Own.keep ho5 (Nat.le_of_eq hsz.symm) (fun b r1 r2 _ => far03b (by omega) _ _ _ _), fun _ => ⟨by omega, by omega⟩, below03 (HB.out.trans (hb5.mono HB.out.size)) (by omega) _ _ _ _⟩
    clear kB h5 hb50 hb5 ho5 hr5
    go_wp2
    refine bodyPost_ret (v := .agg #[.int .i64 el, .slice A5 hd.length c5, .int .i64 tag, .slice B m d]) ?_ rfl ?_
    · rw [results_cell1 rfl]
      go_simp
    · exact HP.out

set_option maxRecDepth 20000 in
theorem block (f el tag : Int) (A : Option Addr) (n c : Nat) (w : World) :
    Calls Try.prog 53 #[.agg #[.int .i64 f, .int .i64 el, .slice A n c, .int .i64 tag]] w fun e w' => e = .returned (.agg #[.int .i64 f, .int .i64 el, .slice A n c, .int .i64 tag]) ∧ Below w.heap.size w w' := by
  obtain ⟨zb0, zb1, hs2, hb2⟩ := two_blk w #[.int .i64 f, .int .i64 el, .slice A n c, .int .i64 tag] #[.int .i64 0, .int .i64 0, .slice none 0 0, .int .i64 0] 80 27
  obtain ⟨p0, p1, p2, p3, pf⟩ := four_cells zb0
  obtain ⟨q0, q1, q2, q3, qf⟩ := four_cells zb1
  clear zb0 zb1 hs2 hb2
  go_enter Try.func53, Try.ntmps53
  go_wp2
  refine bodyPost_ret (v := .agg #[.int .i64 f, .int .i64 el, .slice A n c, .int .i64 tag]) ?_ rfl ?_
  · rw [results_cell1 rfl]
    go_simp
  · exact ⟨rfl, (two_blk w _ _ _ _).2.2.2⟩

set_option maxRecDepth 20000 in
theorem replyBlockOf (f el tag : Int) (A : Option Addr) (n c : Nat) (w : World) :
    Calls Try.prog 63 #[.agg #[.int .i64 f, .int .i64 el, .slice A n c, .int .i64 tag]] w fun e w' => e = .returned (.agg #[.int .i64 f, .int .i64 el, .slice A n c, .int .i64 tag]) ∧ Below w.heap.size w w' := by
  obtain ⟨zb0, zb1, hs2, hb2⟩ := two_blk w #[.int .i64 f, .int .i64 el, .slice A n c, .int .i64 tag] #[.int .i64 0, .int .i64 0, .slice none 0 0, .int .i64 0] 27 80
  obtain ⟨p0, p1, p2, p3, pf⟩ := four_cells zb0
  obtain ⟨q0, q1, q2, q3, qf⟩ := four_cells zb1
  clear zb0 zb1 hs2 hb2
  go_enter Try.func63, Try.ntmps63
  go_wp2
  refine bodyPost_ret (v := .agg #[.int .i64 f, .int .i64 el, .slice A n c, .int .i64 tag]) ?_ rfl ?_
  · rw [results_cell1 rfl]
    go_simp
  · exact ⟨rfl, (two_blk w _ _ _ _).2.2.2⟩

set_option maxRecDepth 20000 in
set_option maxHeartbeats 1000000 in
theorem ReplyFill (f el tag : Int) (hd ls : List Int) (A B : Option Addr) (n c m d l1 h1 l2 h2 : Nat) (w : World) (i1 : Ints l1 h1 w A n c hd) (hn : n ≤ 2000000) (i2 : Ints l2 h2 w B m d ls) :
    Calls Try.prog 21 #[.agg #[.int .i64 f, .int .i64 el, .slice A n c, .int .i64 tag], .slice B m d] w (PktPost (fillR f el hd tag ls) (fillOk f el hd tag ls) w) := by
  obtain ⟨zb0, zb1, hs2, hb2⟩ := two_blk w #[.int .i64 f, .int .i64 el, .slice A n c, .int .i64 tag] #[.int .i64 0, .slice none 0 0, .int .i64 0, .slice none 0 0] 27 39
  have I1 := Lib.hid (i1.below hb2 (Nat.le_refl _))
  have I2 := Lib.hid (i2.below hb2 (Nat.le_refl _))
  have Z0 := Lib.hid zb0
  have Z1 := Lib.hid zb1
  have HB := Lib.hid hb2
  have HL := Lib.hid i1.1
  clear i1 i2 zb0 zb1 hb2
  go_enter Try.func21, Try.ntmps21
  go_wp2_with fail
  generalize ((w.alloc (.cells #[.int .i64 f, .int .i64 el, .slice A n c, .int .i64 tag] 27)).alloc (.cells #[.int .i64 0, .slice none 0 0, .int .i64 0, .slice none 0 0] 39)) = w0 at *
  ((with_reducible refine (Im4.LetterPack _ _ _ _ _ ls _ I2.out).mono ?_); rintro e w1 ⟨AL, cl, rfl, ol, hb1⟩)
  have OL := Lib.hid ol
  replace I1 := Lib.hid (I1.out.below hb1 (Nat.le_refl _))
  replace Z0 := Lib.hid (Z0.out.below hb1 (Nat.le_refl _))
  replace Z1 := Lib.hid (Z1.out.below hb1 (Nat.le_refl _))
  replace HB := Lib.hid (HB.out.trans (hb1.mono HB.out.size))
  have hs1 := hb1.size
  clear ol hb1 I2
  obtain ⟨p0, p1, p2, p3, pf⟩ := four_cells Z0.out
  go_wp2_with fail
  ((with_reducible refine (replyBlockOf f el tag A n c _).mono ?_); rintro e w2 ⟨rfl, hb2⟩)
  clear p0 p1 p2 p3 pf
  have hal : Below w1.heap.size w1 (w2.alloc (.cells #[.int .i64 f, .int .i64 el, .slice A n c, .int .i64 tag] 80)) := hb2.alloc hb2.size _
  have Z2 : Hid (Blk (w2.alloc (.cells #[.int .i64 f, .int .i64 el, .slice A n c, .int .i64 tag] 80)) w2.heap.size #[.int .i64 f, .int .i64 el, .slice A n c, .int .i64 tag] 80) := heap_alloc_new _ _
  replace OL := Lib.hid (OL.out.below hal (Nat.le_refl _))
  replace I1 := Lib.hid (I1.out.below hal (Nat.le_refl _))
  replace Z0 := Lib.hid (Z0.out.below hal (Nat.le_refl _))
  replace Z1 := Lib.hid (Z1.out.below hal (Nat.le_refl _))
  replace HB := Lib.hid (HB.out.trans (hal.mono HB.out.size))
  have hs3 := hal.size
  have hs2b := hb2.size
  clear hal hb2
  obtain ⟨p0, p1, p2, p3, pf⟩ := four_cells Z2.out
  obtain rfl : hd.length = n := HL.out
  go_wp2_with fail
  ((with_reducible refine (withBody el tag hd A AL c (packF ls).length cl _ _ _ I1.out hn).mono ?_); rintro e w4 ⟨A4, c4, b4, rfl, oh, hr4, hb4⟩)
  clear p0 p1 p2 p3 pf
  have hal : Below (w2.alloc (.cells #[.int .i64 f, .int .i64 el, .slice A hd.length c, .int .i64 tag] 80)).heap.size (w2.alloc (.cells #[.int .i64 f, .int .i64 el, .slice A hd.length c, .int .i64 tag] 80)) (w4.alloc (.cells #[.int .i64 el, .slice A4 hd.length c4, .int .i64 tag, .slice AL (packF ls).length cl] 39)) := hb4.alloc hb4.size _
  have Z3 : Hid (Blk (w4.alloc (.cells #[.int .i64 el, .slice A4 hd.length c4, .int .i64 tag, .slice AL (packF ls).length cl] 39)) w4.heap.size #[.int .i64 el, .slice A4 hd.length c4, .int .i64 tag, .slice AL (packF ls).length cl] 39) := heap_alloc_new _ _
  have OH := Lib.hid (oh.below (w' := (w4.alloc (.cells #[.int .i64 el, .slice A4 hd.length c4, .int .i64 tag, .slice AL (packF ls).length cl] 39))) ((Below.refl _ _).alloc (Nat.le_refl _) _) (Nat.le_refl _))
  replace OL := Lib.hid (OL.out.below hal (Nat.le_refl _))
  replace Z0 := Lib.hid (Z0.out.below hal (Nat.le_refl _))
  replace Z1 := Lib.hid (Z1.out.below hal (Nat.le_refl _))
  replace Z2 := Lib.hid (Z2.out.below hal (Nat.le_refl _))
  replace HB := Lib.hid (HB.out.trans (hal.mono HB.out.size))
  have HR4 := Lib.hid hr4
  have hs5 := hal.size
  have hs5b : (w4.alloc (.cells #[.int .i64 el, .slice A4 hd.length c4, .int .i64 tag, .slice AL (packF ls).length cl] 39)).heap.size = w4.heap.size + 1 := by simp
  have HS5 := Lib.hid hs5b
  clear hal hb4 oh hr4 hs5b I1
  cases hq : packOk ls
  · have HV : Hid (fillOk f el hd tag ls = false) := by show _ = _; simp [fillOk, hq]
    obtain ⟨r0, r1, r2, r3, rf⟩ := four_cells Z1.out
    clear hq
    go_wp2
    refine bodyPost_ret (v := .tuple #[.agg #[.int .i64 0, .slice none 0 0, .int .i64 0, .slice none 0 0], .bool false]) ?_ rfl (fill_no HV.out ?_)
    · rw [results_cell_tmp rfl]
      go_simp
    · exact below03 HB.out (by omega) _ _ _ _
  have HQ := Lib.hid hq
  clear hq
  obtain ⟨q0, q1, q2, q3, qf⟩ := four_cells Z2.out
  cases hi : inName f
  · have HV : Hid (fillOk f el hd tag ls = false) := by show _ = _; simp [fillOk, hi]
    go_wp2_with fail
    ((with_reducible refine (Im5.nameValid f _).mono ?_); rintro e w' ⟨rfl, rfl⟩)
    rw [hi]
    clear hi q0 q1 q2 q3 qf
    obtain ⟨r0, r1, r2, r3, rf⟩ := four_cells Z1.out
    go_wp2
    refine bodyPost_ret (v := .tuple #[.agg #[.int .i64 0, .slice none 0 0, .int .i64 0, .slice none 0 0], .bool false]) ?_ rfl (fill_no HV.out ?_)
    · rw [results_cell_tmp rfl]
      go_simp
    · exact below03 HB.out (by omega) _ _ _ _
  have HI := Lib.hid hi
  go_wp2_with fail
  ((with_reducible refine (Im5.nameValid f _).mono ?_); rintro e w' ⟨rfl, rfl⟩)
  rw [hi]
  clear hi q0 q1 q2 q3 qf
  obtain ⟨q0, q1, q2, q3, qf⟩ := four_cells Z3.out
  go_wp2_with fail
  ((with_reducible refine (Im5.PacketValid _ _ _ _ _ _ _ _ _ _ el tag hd (packF ls) _ OH.out.ints OL.out.ints).mono ?_); rintro e w6 ⟨rfl, hb6⟩)
  replace OL := Lib.hid (OL.out.below hb6 (Nat.le_refl _))
  replace OH := Lib.hid (OH.out.below hb6 (Nat.le_refl _))
  replace Z1 := Lib.hid (Z1.out.below hb6 (Nat.le_refl _))
  replace Z3 := Lib.hid (Z3.out.below hb6 (Nat.le_refl _))
  replace HB := Lib.hid (HB.out.trans (hb6.mono HB.out.size))
  have hs6 := hb6.size
  clear hb6 q0 q1 q2 q3 qf
  obtain ⟨r0, r1, r2, r3, rf⟩ := four_cells Z1.out
  obtain ⟨q0, q1, q2, q3, qf⟩ := four_cells Z3.out
  have HE : Hid (fillOk f el hd tag ls = pktOk ⟨el, hd, tag, packF ls⟩) := by show _ = _; simp [fillOk, HQ.out, HI.out, packF_yes HQ.out]
  cases hp : pktOk ⟨el, hd, tag, packF ls⟩
  · have HV : Hid (fillOk f el hd tag ls = false) := HE.out.trans hp
    clear hp
    go_wp2
    refine bodyPost_ret (v := .tuple #[.agg #[.int .i64 0, .slice none 0 0, .int .i64 0, .slice none 0 0], .bool false]) ?_ rfl (fill_no HV.out ?_)
    · rw [results_cell_tmp rfl]
      go_simp
    · exact below03 HB.out (by omega) _ _ _ _
  · have HV : Hid (fillOk f el hd tag ls = true) := HE.out.trans hp
    have h9 : 0 < hd.length := by have := (pktOk_iff.1 hp).2.2.1; dsimp only at this; omega
    have HR := Lib.hid (HR4.out h9)
    clear hp h9
    go_wp2
    refine bodyPost_ret (v := .tuple #[.agg #[.int .i64 el, .slice A4 hd.length c4, .int .i64 tag, .slice AL (packF ls).length cl], .bool true]) ?_ rfl (fill_yes HV.out OH.out OL.out ?_ ?_ ?_ HB.out)
    · rw [results_cell_tmp rfl]
      go_simp
    · have := HR.out.1
      omega
    · omega
    · omega

set_option maxRecDepth 20000 in
theorem ReplyOpen (ks bs : List Int) (A B : Option Addr) (n c m d l1 h1 l2 h2 : Nat) (w : World) (i1 : Ints l1 h1 w A n c ks) (i2 : Ints l2 h2 w B m d bs) :
    Calls Try.prog 23 #[.slice A n c, .slice B m d] w (PairB (opnF ks bs) (opnOk ks bs) w) := by
  have hc1 := i1.2.2.1
  have hc2 := i1.2.1
  have HL := Lib.hid i1.1
  unfold maxLen at hc1
  have I1 := Lib.hid i1
  have I2 := Lib.hid i2
  clear i1 i2
  cases hp : pubsOk ks
  · have HV := Lib.hid (opn_no (b := bs) hp)
    have HNO : Hid (∀ b : Nat, PairB (opnF ks bs) (opnOk ks bs) w (.returned (.tuple #[.slice (some ⟨b, 0, none⟩) 0 0, .bool false])) (w.alloc (.cells #[] 3))) := fun b => by
      rw [opnF_no HV.out, HV.out]
      exact ⟨_, _, rfl, Own.nil_ (Nat.zero_le _), (Below.refl _ _).alloc (Nat.le_refl _) _⟩
    go_enter Try.func23, Try.ntmps23
    go_wp2_with fail
    ((with_reducible refine (Im5.pathValid _ _ _ _ _ ks w I1.out).mono ?_); rintro e w' ⟨rfl, rfl⟩)
    rw [hp]
    clear hp
    go_wp2
    go_ret2
    exact HNO.out _
  · have HPK := Lib.hid (opn_is (b := bs) hp)
    have H0 : Hid (∃ B' c', (Value.slice B m d) = .slice B' (onsF bs (ks.take 0)).length c' ∧ (∃ l h, Ints l h w B' (onsF bs (ks.take 0)).length c' (onsF bs (ks.take 0))) ∧ Below w.heap.size w w) := by
      have e : (onsF bs (ks.take 0)) = bs := rfl
      have hl := I2.out.1
      subst hl
      rw [e]
      exact ⟨B, d, rfl, ⟨_, _, I2.out⟩, Below.refl _ _⟩
    go_enter Try.func23, Try.ntmps23
    go_wp2_with fail
    ((with_reducible refine (Im5.pathValid _ _ _ _ _ ks w I1.out).mono ?_); rintro e w' ⟨rfl, rfl⟩)
    rw [hp]
    clear hp
    go_wp2
    go_loopw [1, 7, 14] (fun s _ i wr => ∃ k : Nat, k ≤ n ∧ i = .int .i64 k ∧ Hid (∃ B' c', s = .slice B' (onsF bs (ks.take k)).length c' ∧ (∃ l h, Ints l h wr B' (onsF bs (ks.take k)).length c' (onsF bs (ks.take k))) ∧ Below w.heap.size w wr)) (fun _ _ i _ => n - (intOf i).toNat)
    case atStart => exact ⟨0, Nat.zero_le _, rfl, H0.out⟩
    case round =>
      obtain ⟨k, hk, rfl, hT⟩ := hrel
      obtain ⟨B', c', rfl, ⟨l, h, hx⟩, hbw⟩ := hT
      have HX := Lib.hid hx
      have HB := Lib.hid hbw
      clear hx hbw H0
      by_cases hlt : k < n
      · obtain ⟨b, off, rfl, _, _, hcx0⟩ := I1.out.at_ hlt
        have hcx := (HB.out.cell (p := ⟨b, off + k, none⟩) (World.block_lt_of_cell? w _ hcx0)).trans hcx0
        have HS := Lib.hid (onsF_take (b := bs) (show k < ks.length by rw [HL.out]; exact hlt))
        generalize ks.getD k 0 = key at hcx HS
        generalize onsF bs (ks.take k) = xs at HX HS ⊢
        clear hcx0
        go_wp2_with fail
        ((with_reducible refine (Im2.MaskOn _ _ _ _ _ xs key wr HX.out).mono ?_); rintro e w2 ⟨A2, c2, rfl, ho, hb2⟩)
        have HN : Hid (∃ B' c', (Value.slice A2 (onF xs key).length c2) = .slice B' (onsF bs (ks.take (k + 1))).length c' ∧ (∃ l h, Ints l h w2 B' (onsF bs (ks.take (k + 1))).length c' (onsF bs (ks.take (k + 1)))) ∧ Below w.heap.size w w2) := by
          rw [HS.out]
          exact ⟨A2, c2, rfl, ⟨_, _, ho.ints⟩, HB.out.trans (hb2.mono HB.out.size)⟩
        clear ho hb2
        go_wp2
        go_roundw
        case rel => exact ⟨k + 1, by omega, by go_num, HN.out⟩
        case measure => simp [intOf]; omega
      · have hkn : k = n := by omega
        have hke : onsF bs (ks.take k) = onsF bs ks := by rw [hkn, List.take_of_length_le (by rw [HL.out]; exact Nat.le_refl _)]
        rw [hke] at HX ⊢
        clear hkn hke
        generalize onsF bs ks = xs at HX HPK ⊢
        go_wp2_with fail
        ((with_reducible refine (Im4.LetterOpen _ _ _ _ _ xs wr HX.out).mono ?_); rintro e w2 ⟨A2, c2, rfl, ho, hb2⟩)
        rw [HPK.out.2] at ho ⊢
        rw [HPK.out.1]
        have HP2 : Hid (PairB (opnF ks bs) (opnOk ks bs) w (.returned (.tuple #[.slice A2 (opnF ks bs).length c2, .bool (opnOk ks bs)])) w2) :=
          ⟨A2, c2, rfl, ho.mono HB.out.size (Nat.le_refl _), HB.out.trans (hb2.mono HB.out.size)⟩
        clear ho hb2
        go_wp2
        go_ret2
        exact HP2.out

end Im10
end Go.Proofs.Ytljfhddgifacnaa
