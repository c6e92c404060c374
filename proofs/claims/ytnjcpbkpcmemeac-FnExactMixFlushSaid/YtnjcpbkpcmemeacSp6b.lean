/-
  Contracts of the model's chapter 11: copies of pools and mixes, taking a packet, a new epoch.
-/
import Derived.Test.YtnjcpbkpcmemeacSp6a
import Derived.Test.YtnjcpbkpcmemeacGt
import Derived.Test.YtnjcpbkpcmemeacPk5
import Derived.Test.YtnjcpbkpcmemeacHlp6
import Derived.Deep.Cut
import Derived.Deep.RegionLaw
import Derived.Deep.RegionHeld3
namespace Go.Proofs.Ytnjcpbkpcmemeac
open Go.RowKit
namespace Sp6
open Il Gm Mm Tm Lm Pm Pq Hlp5 Sl Mm6 Sp2

/-- Four cells of a block of six are written. -/
theorem blk_set25 {w : World} {b : Nat} {v0 v1 u2 u3 u4 u5 v2 v3 v4 v5 : Value} {t : TypeId} (h : Blk w b #[v0, v1, u2, u3, u4, u5] t) :
    Blk ((((w.setCell ⟨b, 2, none⟩ v2).setCell ⟨b, 3, none⟩ v3).setCell ⟨b, 4, none⟩ v4).setCell ⟨b, 5, none⟩ v5) b #[v0, v1, v2, v3, v4, v5] t := (set4b h).1
theorem far25 (w : World) (b : Nat) (v2 v3 v4 v5 : Value) (x : Nat) (hx : x ≠ b) : ((((w.setCell ⟨b, 2, none⟩ v2).setCell ⟨b, 3, none⟩ v3).setCell ⟨b, 4, none⟩ v4).setCell ⟨b, 5, none⟩ v5).heap[x]? = w.heap[x]? :=
  (Below.heap_setCell _ _ _ _ hx).trans ((Below.heap_setCell _ _ _ _ hx).trans ((Below.heap_setCell _ _ _ _ hx).trans (Below.heap_setCell _ _ _ _ hx)))
theorem size25 (w : World) (b : Nat) (v2 v3 v4 v5 : Value) : ((((w.setCell ⟨b, 2, none⟩ v2).setCell ⟨b, 3, none⟩ v3).setCell ⟨b, 4, none⟩ v4).setCell ⟨b, 5, none⟩ v5).heap.size = w.heap.size := by simp [World.setCell]

/-- A pool of the caller's own is returned. -/
def PoolP (ps : List Pld) (w : World) (e : Ending) (w' : World) : Prop :=
  ∃ A c, e = .returned (.slice A ps.length c) ∧ GatP w.heap.size w'.heap.size w' (.slice A ps.length c) ps ∧ Below w.heap.size w w'

theorem slot_nodup (s : Slot) (h : s.h ≠ s.g) : (fpS s).Nodup := by
  unfold fpS fp
  split <;> split <;> simp [h]

def PlRel (lo : Nat) (w wr : World) (A : Option Addr) (n c : Nat) (ps : List Pld) (v : Value) (j : Nat) : Prop :=
  GatP lo wr.heap.size wr v (ps.take j) ∧ Pool 0 lo wr A n c ps ∧ Below lo w wr ∧ lo ≤ wr.heap.size
theorem take_snoc {ps : List Pld} {j : Nat} (h : j < ps.length) : ps.take j ++ [pldAt ps j] = ps.take (j + 1) := by
  rw [List.take_succ_eq_append_getElem h]
  unfold pldAt
  rw [List.getD_eq_getElem?_getD, List.getElem?_eq_getElem h]
  rfl
set_option maxRecDepth 20000 in
set_option maxHeartbeats 2000000 in
theorem l11Pool (lo hi : Nat) (A : Option Addr) (n c : Nat) (ps : List Pld) (w : World) (hx : Pool lo hi w A n c ps) (hn : n ≤ 1000) (hh : ∀ p ∈ ps, p.pk.hd.length ≤ 1000 ∧ p.pk.bd.length ≤ 1000) :
    Calls Try.prog 72 #[.slice A n c] w (PoolP ps w) := by
  have hc1 := hx.max_
  have hc2 := hx.cap_
  have HL := Lib.hid hx.len_
  unfold maxLen at hc1
  have hal : Below w.heap.size w (w.alloc (.cells #[] 39)) := (Below.refl _ _).alloc (Nat.le_refl _) _
  have HR0 : Hid (PlRel w.heap.size w (w.alloc (.cells #[] 39)) A n c ps (.slice (some ⟨w.heap.size, 0, none⟩) 0 0) 0) :=
    ⟨by simpa using gat_new w, (hx.top (Nat.zero_le _)).below hal (Nat.le_refl _), hal, hal.size⟩
  have HH := Lib.hid hh
  clear hx hal hh
  go_enter Try.func72, Try.ntmps72
  go_wp2
  go_loopw [3, 4] (fun v i wr => ∃ (j : Nat) (v0 : Value), j ≤ n ∧ i = .int .i64 j ∧ v0 = v ∧ Hid (PlRel w.heap.size w wr A n c ps v0 j)) (fun _ i _ => n - (intOf i).toNat)
  case atStart => exact ⟨0, _, Nat.zero_le _, rfl, rfl, HR0.out⟩
  case round =>
    obtain ⟨j, v0, hj, rfl, rfl, hR⟩ := hrel
    clear HR0
    by_cases hlj : j < n
    · have hjp : j < ps.length := by rw [HL.out]; exact hlj
      have HTS := Lib.hid (take_snoc hjp)
      have hmem : pldAt ps j ∈ ps := by
        unfold pldAt
        rw [List.getD_eq_getElem?_getD, List.getElem?_eq_getElem hjp]
        exact List.getElem_mem hjp
      obtain ⟨hh1, hh2⟩ := HH.out _ hmem
      obtain ⟨b, off, H, ch, G, cg, rfl, _, _, c0, c1, c2, c3, c4, c5, ih, ig⟩ := hR.out.2.1.at_ hlj
      generalize pldAt ps j = p at *
      have hal : Below wr.heap.size wr (wr.alloc (.cells #[.int .i64 p.kind, .int .i64 p.next, .int .i64 p.pk.el, .slice H p.pk.hd.length ch, .int .i64 p.pk.tag, .slice G p.pk.bd.length cg] 39)) := (Below.refl _ _).alloc (Nat.le_refl _) _
      have hz : Blk (wr.alloc (.cells #[.int .i64 p.kind, .int .i64 p.next, .int .i64 p.pk.el, .slice H p.pk.hd.length ch, .int .i64 p.pk.tag, .slice G p.pk.bd.length cg] 39)) wr.heap.size #[.int .i64 p.kind, .int .i64 p.next, .int .i64 p.pk.el, .slice H p.pk.hd.length ch, .int .i64 p.pk.tag, .slice G p.pk.bd.length cg] 39 := heap_alloc_new _ _
      have IH := Lib.hid (ih.below hal (Nat.le_refl _))
      have IG := Lib.hid (ig.below hal (Nat.le_refl _))
      have HAL := Lib.hid hal
      have HZ := Lib.hid hz
      clear ih ig hal hz hmem
      go_wp2_with fail
      ((with_reducible refine (Rd.l11Packet p.pk _ _ _ _ _ _ _ _ _ IH.out IG.out hh1 hh2).mono ?_); rintro e w1 ⟨g1, e1, g2, e2, rfl, a1, a2, hne, hg1, hg2, hb⟩)
      have hz1 : Blk w1 wr.heap.size _ _ := HZ.out.below hb (Nat.le_refl _)
      have hg1' : wr.heap.size < g1 := Nat.lt_of_lt_of_le (by simp) hg1
      have hg2' : wr.heap.size < g2 := Nat.lt_of_lt_of_le (by simp) hg2
      have hb2 : Below wr.heap.size wr w1 := HAL.out.trans (hb.mono HAL.out.size)
      have o1 := (Rd.accB_own a1)
      have o2 := (Rd.accB_own a2)
      have hfar := far25 w1 wr.heap.size (.int .i64 p.pk.el) (.slice (some ⟨g1, 0, none⟩) p.pk.hd.length e1) (.int .i64 p.pk.tag) (.slice (some ⟨g2, 0, none⟩) p.pk.bd.length e2)
      have hsz5 := size25 w1 wr.heap.size (.int .i64 p.pk.el) (.slice (some ⟨g1, 0, none⟩) p.pk.hd.length e1) (.int .i64 p.pk.tag) (.slice (some ⟨g2, 0, none⟩) p.pk.bd.length e2)
      have hbk := blk_set25 (v2 := .int .i64 p.pk.el) (v3 := .slice (some ⟨g1, 0, none⟩) p.pk.hd.length e1) (v4 := .int .i64 p.pk.tag) (v5 := .slice (some ⟨g2, 0, none⟩) p.pk.bd.length e2) hz1
      have hlo := hR.out.2.2.2
      have hbl := (((((hR.out.2.2.1.trans (hb2.mono hlo)).setCell (p := ⟨wr.heap.size, 2, none⟩) hlo (.int .i64 p.pk.el)).setCell (p := ⟨wr.heap.size, 3, none⟩) hlo (.slice (some ⟨g1, 0, none⟩) p.pk.hd.length e1)).setCell (p := ⟨wr.heap.size, 4, none⟩) hlo (.int .i64 p.pk.tag)).setCell (p := ⟨wr.heap.size, 5, none⟩) hlo (.slice (some ⟨g2, 0, none⟩) p.pk.bd.length e2))
      obtain ⟨y0, y1, y2, y3, y4, y5, yf⟩ := six_cells hz1
      have hb2s := hb2.size
      have HF := Lib.hid hfar
      have HS5 := Lib.hid hsz5
      have HBK := Lib.hid hbk
      have HBL := Lib.hid hbl
      have HB2 := Lib.hid hb2
      have O1 := Lib.hid o1
      have O2 := Lib.hid o2
      clear a1 a2 hb hz1 hb2 o1 o2 hfar hsz5 hbk hbl HAL HZ IH IG c0 c1 c2 c3 c4 c5
      go_upto_region 7 with (fail)
      clear y0 y1 y2 y3 y4 y5 yf
      generalize ((((w1.setCell ⟨wr.heap.size, 2, none⟩ (.int .i64 p.pk.el)).setCell ⟨wr.heap.size, 3, none⟩ (.slice (some ⟨g1, 0, none⟩) p.pk.hd.length e1)).setCell ⟨wr.heap.size, 4, none⟩ (.int .i64 p.pk.tag)).setCell ⟨wr.heap.size, 5, none⟩ (.slice (some ⟨g2, 0, none⟩) p.pk.bd.length e2)) = w2 at *
      have hkeep : ∀ x, x < wr.heap.size → w2.heap[x]? = wr.heap[x]? := fun x hx => (HF.out x (by omega)).trans (HB2.out.block x hx)
      have hsz : wr.heap.size ≤ w2.heap.size := by rw [HS5.out]; exact hb2s
      have HGP := Lib.hid (hR.out.1.keep hsz (fun x _ h2 _ => hkeep x h2))
      have HPO := Lib.hid (hR.out.2.1.keep hsz (fun x _ h2 _ => hkeep x (by omega)))
      have HSO : Hid (SlotO w2 ⟨p, some ⟨g1, 0, none⟩, e1, some ⟨g2, 0, none⟩, e2, g1, g2⟩) := ⟨own_keepC O1.out (by rw [HS5.out]; exact Nat.le_refl _) (fun _ => HF.out g1 (by omega)), own_keepC O2.out (by rw [HS5.out]; exact Nat.le_refl _) (fun _ => HF.out g2 (by omega))⟩
      obtain ⟨y0, y1, y2, y3, y4, y5, yf⟩ := six_cells HBK.out
      clear hkeep HF HS5 HBK HB2 O1 O2 hR
      have HSF : Hid (∀ y ∈ fpS ⟨p, some ⟨g1, 0, none⟩, e1, some ⟨g2, 0, none⟩, e2, g1, g2⟩, wr.heap.size ≤ y) := fun y hy => by
        rcases List.mem_append.1 hy with h | h
        · have := (mem_fp.1 h).2
          dsimp only at this; omega
        · have := (mem_fp.1 h).2
          dsimp only at this; omega
      have HSN := Lib.hid (slot_nodup ⟨p, some ⟨g1, 0, none⟩, e1, some ⟨g2, 0, none⟩, e2, g1, g2⟩ hne)
      have hlen : (ps.take j).length ≤ 100000 := by rw [List.length_take]; omega
      go_wp2_with (at_builtin; refine wpList_gatD (x := ⟨p, some ⟨g1, 0, none⟩, e1, some ⟨g2, 0, none⟩, e2, g1, g2⟩) (.inr HGP.out) HSO.out HSF.out HSN.out hlo hsz hlen _ _ rfl rfl rfl rfl ?_; intro v5 w5 hQ5 hB5 _)
      have hG5 : GatP w.heap.size w5.heap.size w5 v5 (ps.take j ++ [p]) := hQ5.gat (fun x hx h => by
        rcases h with h | h | h
        · omega
        · have := HSF.out x h; omega
        · omega)
      clear hQ5
      rw [HTS.out] at hG5
      have hs5 := hB5.size
      have HN : Hid (PlRel w.heap.size w w5 (some ⟨b, off, none⟩) n c ps v5 (j + 1)) := ⟨hG5, HPO.out.keep hs5 (fun x _ h2 _ => hB5.block x h2), HBL.out.trans hB5, by omega⟩
      clear hG5 hB5 HGP HPO HSO HSF HSN HBL y0 y1 y2 y3 y4 y5 yf
      go_wp2
      go_roundw
      case rel => exact ⟨j + 1, _, by omega, by go_num, rfl, HN.out⟩
      case measure => simp [intOf]; omega
    · obtain rfl : j = n := by omega
      have hg := hR.out.1
      rw [List.take_of_length_le (by rw [HL.out]; exact Nat.le_refl _)] at hg
      obtain ⟨A9, c9, G9, rfl, ho, hw⟩ := hg.own
      have HP : Hid (PoolP ps w (.returned (.slice A9 ps.length c9)) wr) := ⟨A9, c9, rfl, hg, hR.out.2.2.1⟩
      clear hg ho hw hR hlj
      go_wp2
      go_ret
      exact HP.out

/-- A mix of the caller's own, alone. -/
def MixC (x : Mx) (w : World) (e : Ending) (w' : World) : Prop :=
  ∃ A c B d mid, e = .returned (.agg #[.int .i64 x.sec, .slice A x.seen.length c, .slice B x.pool.length d]) ∧ MixG w.heap.size mid w'.heap.size w' (.slice A x.seen.length c) (.slice B x.pool.length d) x ∧ Below w.heap.size w w'
/-- Two blocks, one behind the other. -/
theorem two_blocks (w : World) (a b : Array Value) (t1 t2 : TypeId) :
    Blk ((w.alloc (.cells a t1)).alloc (.cells b t2)) w.heap.size a t1 ∧ Blk ((w.alloc (.cells a t1)).alloc (.cells b t2)) (w.heap.size + 1) b t2 ∧ ((w.alloc (.cells a t1)).alloc (.cells b t2)).heap.size = w.heap.size + 1 + 1 ∧ Below w.heap.size w ((w.alloc (.cells a t1)).alloc (.cells b t2)) := by
  have h1 := (Below.refl w.heap.size w).alloc (Nat.le_refl _) (.cells a t1)
  have h2 := h1.alloc h1.size (.cells b t2)
  have e1 : (w.alloc (.cells a t1)).heap.size = w.heap.size + 1 := by simp
  refine ⟨(Below.heap_alloc _ _ _ (by omega)).trans (heap_alloc_new _ _), ?_, by simp, h2⟩
  have := heap_alloc_new (w.alloc (.cells a t1)) (.cells b t2)
  rw [e1] at this
  exact this
theorem far3 {w : World} {g b o : Nat} (h : b ≠ g) (v0 v1 v2 : Value) : (((w.setCell ⟨g, 0, none⟩ v0).setCell ⟨g, 1, none⟩ v1).setCell ⟨g, 2, none⟩ v2).cell? ⟨b, o, none⟩ = w.cell? ⟨b, o, none⟩ :=
  World.cell?_of_block ((Below.heap_setCell _ _ _ _ h).trans ((Below.heap_setCell _ _ _ _ h).trans (Below.heap_setCell _ _ _ _ h)))
theorem farb3 {w : World} {g b : Nat} (h : b ≠ g) (v0 v1 v2 : Value) : (((w.setCell ⟨g, 0, none⟩ v0).setCell ⟨g, 1, none⟩ v1).setCell ⟨g, 2, none⟩ v2).heap[b]? = w.heap[b]? :=
  (Below.heap_setCell _ _ _ _ h).trans ((Below.heap_setCell _ _ _ _ h).trans (Below.heap_setCell _ _ _ _ h))
set_option maxRecDepth 20000 in
set_option maxHeartbeats 2000000 in
theorem l11Copy (x : Mx) (A B : Option Addr) (n c m d lo hi : Nat) (w : World) (hx : MixR lo hi w A n c B m d x) (hn : n ≤ 1000) (hm : m ≤ 1000) (hh : ∀ p ∈ x.pool, p.pk.hd.length ≤ 1000 ∧ p.pk.bd.length ≤ 1000) :
    Calls Try.prog 40 #[.agg #[.int .i64 x.sec, .slice A n c, .slice B m d]] w (MixC x w) := by
  have L1 := Lib.hid hx.1.1
  have L2 := Lib.hid hx.2.len_
  obtain ⟨zb0, zb1, hs2, hb2⟩ := two_blocks w #[.int .i64 x.sec, .slice A n c, .slice B m d] #[.int .i64 0, .slice none 0 0, .slice none 0 0] 26 26
  have HX := Lib.hid (hx.below hb2 (Nat.le_refl _))
  have Z0 := Lib.hid zb0
  have Z1 := Lib.hid zb1
  have HB := Lib.hid hb2
  have hsz : w.heap.size + 1 < ((w.alloc (.cells #[.int .i64 x.sec, .slice A n c, .slice B m d] 26)).alloc (.cells #[.int .i64 0, .slice none 0 0, .slice none 0 0] 26)).heap.size := by rw [hs2]; omega
  have HH := Lib.hid hh
  clear hx zb0 zb1 hs2 hb2 hh
  go_enter Try.func40, Try.ntmps40
  go_wp2_with fail
  generalize ((w.alloc (.cells #[.int .i64 x.sec, .slice A n c, .slice B m d] 26)).alloc (.cells #[.int .i64 0, .slice none 0 0, .slice none 0 0] 26)) = w0 at *
  have SA : Hid (w0.drew.cell? ⟨w.heap.size, 0, none⟩ = some (.int .i64 x.sec) ∧ w0.drew.cell? ⟨w.heap.size, 1, none⟩ = some (.slice A n c) ∧ w0.drew.cell? ⟨w.heap.size, 2, none⟩ = some (.slice B m d)) := ⟨(three_cells Z0.out).1, (three_cells Z0.out).2.1, (three_cells Z0.out).2.2.1⟩
  have hal : Below w0.heap.size w0 (w0.alloc (.cells #[] 3)).drew := below_dr ((Below.refl _ w0).alloc (Nat.le_refl _) _) 1
  have HD : Hid (Dest 3 1 (some w0.heap.size) (w0.alloc (.cells #[] 3)).drew (.slice (some ⟨w0.heap.size, 0, none⟩) 0 0) 0 []) := .inr ⟨_, rfl, accV_new w0.drew _ _⟩
  have HRW := Lib.hid (ints_row (HX.out.1.below hal (Nat.le_refl _)))
  have SB : Hid ((w0.alloc (.cells #[] 3)).drew.cell? ⟨w.heap.size, 0, none⟩ = some (.int .i64 x.sec) ∧ (w0.alloc (.cells #[] 3)).drew.cell? ⟨w.heap.size, 1, none⟩ = some (.slice A n c) ∧ (w0.alloc (.cells #[] 3)).drew.cell? ⟨w.heap.size, 2, none⟩ = some (.slice B m d)) := by
    have h1 := Z0.out.below hal (Nat.le_refl _)
    exact ⟨(three_cells h1).1, (three_cells h1).2.1, (three_cells h1).2.2.1⟩
  have HAL := Lib.hid hal
  have HNE : Hid (w.heap.size ≠ w.heap.size + 1) := by show _ ≠ _; omega
  clear hal
  go_region_held3 (fun w' => w'.cell? ⟨w.heap.size, 0, none⟩ = some (.int .i64 x.sec) ∧ w'.cell? ⟨w.heap.size, 1, none⟩ = some (.slice A n c) ∧ w'.cell? ⟨w.heap.size, 2, none⟩ = some (.slice B m d))
    (first | with_reducible exact SA.out | with_reducible exact SB.out | with_reducible exact kB | with_reducible exact kC | with_reducible exact ⟨(far3 HNE.out _ _ _).trans kC.1, (far3 HNE.out _ _ _).trans kC.2.1, (far3 HNE.out _ _ _).trans kC.2.2⟩ | fail)
    (first
    | (refine step_appD elInt _ _ _ _ _ HD.out _ _ _ _ _ _ HRW.out (ints_one_cell _) (by omega) (.tmp 5) (.tmp 7) rfl rfl (by go_simp) (by go_simp) ?_; intro g5 v5 w5 hd5 hg5 hgr5; rw [List.nil_append, Nat.zero_add] at hd5; obtain ⟨A5, c5, b5, rfl, ho5, hk5⟩ := dest_ints hd5; have hb5 : Below w0.heap.size w0 w5 := HAL.out.grown hgr5 (by simp) (fun k hk => by simp at hk; omega); have h5 := Z0.out.below hb5 (Nat.le_refl _); have kB : (w5.cell? ⟨w.heap.size, 0, none⟩ = some (.int .i64 x.sec) ∧ w5.cell? ⟨w.heap.size, 1, none⟩ = some (.slice A n c) ∧ w5.cell? ⟨w.heap.size, 2, none⟩ = some (.slice B m d)) := ⟨(three_cells h5).1, (three_cells h5).2.1, (three_cells h5).2.2.1⟩)
    | (go_at_call 72; refine (l11Pool _ _ _ _ _ x.pool _ (HX.out.2.below hb5 (Nat.le_refl _)) hm HH.out).mono ?_; rintro e w6 ⟨A6, c6, rfl, ho6, hb6⟩; have h6 := (Z0.out.below hb5 (Nat.le_refl _)).below hb6 (Nat.le_refl _); have kC : (w6.cell? ⟨w.heap.size, 0, none⟩ = some (.int .i64 x.sec) ∧ w6.cell? ⟨w.heap.size, 1, none⟩ = some (.slice A n c) ∧ w6.cell? ⟨w.heap.size, 2, none⟩ = some (.slice B m d)) := ⟨(three_cells h6).1, (three_cells h6).2.1, (three_cells h6).2.2.1⟩; obtain ⟨r0, r1, r2, rf⟩ := three_cells ((Z1.out.below hb5 (Nat.le_refl _)).below hb6 (Nat.le_refl _))))
  all_goals
    have hb06 := hb5.trans (hb6.mono hb5.size)
    have hbw := HB.out.trans (hb06.mono HB.out.size)
    have hs5 := hb5.size
    have hs6 := hb6.size
    have L1' := L1.out
    have L2' := L2.out
    subst L1'
    subst L2'
    have hsz3 : (((w6.setCell ⟨w.heap.size + 1, 0, none⟩ (.int .i64 x.sec)).setCell ⟨w.heap.size + 1, 1, none⟩ (.slice A5 x.seen.length c5)).setCell ⟨w.heap.size + 1, 2, none⟩ (.slice A6 x.pool.length c6)).heap.size = w6.heap.size := by simp [World.setCell]
    have hmg : MixG w0.heap.size w5.heap.size w6.heap.size w6 (.slice A5 x.seen.length c5) (.slice A6 x.pool.length c6) x := by
      refine ⟨⟨g5, dest_keep hd5 fun k e => hb6.block k (dest_lt hd5 k e), fun k e => ⟨?_, dest_lt hd5 k e⟩⟩, .inr ho6, hs5, hs6⟩
      rcases hg5 with q | ⟨k', q, hk⟩
      · rw [q] at e; simp at e; omega
      · rw [q] at e; simp at e hk; omega
    have HM := Lib.hid (hmg.keep (w' := (((w6.setCell ⟨w.heap.size + 1, 0, none⟩ (.int .i64 x.sec)).setCell ⟨w.heap.size + 1, 1, none⟩ (.slice A5 x.seen.length c5)).setCell ⟨w.heap.size + 1, 2, none⟩ (.slice A6 x.pool.length c6))) (Nat.le_of_eq hsz3.symm) (fun y q1 q2 q3 => farb3 (by omega) _ _ _))
    have HBW := Lib.hid (((hbw.setCell (p := ⟨w.heap.size + 1, 0, none⟩) (show w.heap.size ≤ w.heap.size + 1 by omega) (.int .i64 x.sec)).setCell (p := ⟨w.heap.size + 1, 1, none⟩) (show w.heap.size ≤ w.heap.size + 1 by omega) (.slice A5 x.seen.length c5)).setCell (p := ⟨w.heap.size + 1, 2, none⟩) (show w.heap.size ≤ w.heap.size + 1 by omega) (.slice A6 x.pool.length c6))
    have HS3 := Lib.hid hsz3
    clear hsz3 hmg hbw hb06 kB kC h5 h6 hb5 hb6 ho5 ho6 hd5 hgr5
    go_wp2
    refine bodyPost_ret (v := .agg #[.int .i64 x.sec, .slice A5 x.seen.length c5, .slice A6 x.pool.length c6]) ?_ rfl ?_
    · rw [Rd.results_cell1 rfl]
      go_simp
    · refine ⟨A5, c5, A6, c6, w5.heap.size, rfl, ?_, HBW.out⟩
      rw [HS3.out]
      obtain ⟨⟨g, q1, q2⟩, q3, q4, q5⟩ := HM.out
      exact ⟨⟨g, q1, fun k e => ⟨by have := (q2 k e).1; omega, (q2 k e).2⟩⟩, q3, by omega, q5⟩

theorem mixB_fin {lo mid hi b : Nat} {w wF : World} {A B : Option Addr} {c d : Nat} {y : Mx} (hm : MixG lo mid hi wF (.slice A y.seen.length c) (.slice B y.pool.length d) y) (hhi : hi ≤ wF.heap.size) (hb : b < lo) (hwb : w.heap.size ≤ b) (hbw : Below w.heap.size w wF) (v v0 v1 v2 : Value) :
    MixB y v w (.returned (.tuple #[.agg #[.int .i64 y.sec, .slice A y.seen.length c, .slice B y.pool.length d], v])) (((wF.setCell ⟨b, 0, none⟩ v0).setCell ⟨b, 1, none⟩ v1).setCell ⟨b, 2, none⟩ v2) := by
  obtain ⟨G, h1, h2⟩ := mixG_fin hm hb v0 v1 v2
  have hs : (((wF.setCell ⟨b, 0, none⟩ v0).setCell ⟨b, 1, none⟩ v1).setCell ⟨b, 2, none⟩ v2).heap.size = wF.heap.size := by simp [World.setCell]
  exact ⟨A, c, B, d, rfl, h1.mix fun f hf x hx => by have := h2 f hf x hx; omega, ((hbw.setCell hwb _).setCell hwb _).setCell hwb _⟩
theorem mixS_fin {lo mid hi b : Nat} {w wF : World} {A B : Option Addr} {c d : Nat} {y : Mx} (hm : MixG lo mid hi wF (.slice A y.seen.length c) (.slice B y.pool.length d) y) (hlo : w.heap.size ≤ lo) (hhi : hi ≤ wF.heap.size) (hb : b < lo) (hwb : w.heap.size ≤ b) (hbw : Below w.heap.size w wF) (v v0 v1 v2 : Value) :
    MixS y v w (.returned (.tuple #[.agg #[.int .i64 y.sec, .slice A y.seen.length c, .slice B y.pool.length d], v])) (((wF.setCell ⟨b, 0, none⟩ v0).setCell ⟨b, 1, none⟩ v1).setCell ⟨b, 2, none⟩ v2) :=
  ⟨A, c, B, d, rfl, ((hm.dst hhi).fin hb v0 v1 v2).lower hlo, ((hbw.setCell hwb _).setCell hwb _).setCell hwb _⟩
theorem blk3_set1 {w : World} {b : Nat} {v0 v1 v2 v : Value} {t : TypeId} (h : Blk w b #[v0, v1, v2] t) : Blk (w.setCell ⟨b, 1, none⟩ v) b #[v0, v, v2] t := by
  unfold Blk at h ⊢
  simp [World.setCell, Array.getElem?_modify, h]
theorem blk3_set2 {w : World} {b : Nat} {v0 v1 v2 v : Value} {t : TypeId} (h : Blk w b #[v0, v1, v2] t) : Blk (w.setCell ⟨b, 2, none⟩ v) b #[v0, v1, v] t := by
  unfold Blk at h ⊢
  simp [World.setCell, Array.getElem?_modify, h]
theorem blk3_set0 {w : World} {b : Nat} {v0 v1 v2 v : Value} {t : TypeId} (h : Blk w b #[v0, v1, v2] t) : Blk (w.setCell ⟨b, 0, none⟩ v) b #[v, v1, v2] t := by
  unfold Blk at h ⊢
  simp [World.setCell, Array.getElem?_modify, h]

set_option maxRecDepth 20000 in
set_option maxHeartbeats 4000000 in
theorem l11TakeS (x : Mx) (p : Pkt) (A B A2 B2 : Option Addr) (n c m d c2 d2 lo hi l1 h1 l2 h2 : Nat) (w : World) (hx : MixR lo hi w A n c B m d x) (i1 : Ints l1 h1 w A2 p.hd.length c2 p.hd) (i2 : Ints l2 h2 w B2 p.bd.length d2 p.bd)
    (hn : n ≤ 1000) (hm : m ≤ 1000) (hh : ∀ p ∈ x.pool, p.pk.hd.length ≤ 1000 ∧ p.pk.bd.length ≤ 1000) (hg : inG x.sec = true) (hp : pktOk p = true) :
    Calls Try.prog 56 #[.agg #[.int .i64 x.sec, .slice A n c, .slice B m d], .agg #[.int .i64 p.el, .slice A2 p.hd.length c2, .int .i64 p.tag, .slice B2 p.bd.length d2]] w (MixS (takeM x p) (.int .i64 (takeC x p)) w) := by
  have L1 := Lib.hid hx.1.1
  have L2 := Lib.hid hx.2.len_
  obtain ⟨q1, q2, q3, q4, q5, q6⟩ := pktOk_iff.1 hp
  obtain ⟨zb0, zb1, zb2, hs2, hb2⟩ := Hlp6.three_blocks w #[.int .i64 x.sec, .slice A n c, .slice B m d] #[.int .i64 p.el, .slice A2 9 c2, .int .i64 p.tag, .slice B2 6 d2] #[.int .i64 0, .slice none 0 0, .slice none 0 0] 26 37 26
  rw [q3] at i1 ⊢
  rw [q6] at i2 ⊢
  have HX := Lib.hid (hx.below hb2 (Nat.le_refl _))
  have I1 := Lib.hid (i1.below hb2 (Nat.le_refl _))
  have I2 := Lib.hid (i2.below hb2 (Nat.le_refl _))
  have Z0 := Lib.hid zb0
  have Z1 := Lib.hid zb1
  have Z2 := Lib.hid zb2
  have HB := Lib.hid hb2
  have HG := Lib.hid hg
  have HEL := Lib.hid q1
  have HPK : Hid (pktOk ⟨p.el, p.hd, p.tag, p.bd⟩ = true) := hp
  have HH := Lib.hid hh
  have hsz : w.heap.size + 1 + 1 < (((w.alloc (.cells #[.int .i64 x.sec, .slice A n c, .slice B m d] 26)).alloc (.cells #[.int .i64 p.el, .slice A2 9 c2, .int .i64 p.tag, .slice B2 6 d2] 37)).alloc (.cells #[.int .i64 0, .slice none 0 0, .slice none 0 0] 26)).heap.size := by rw [hs2]; omega
  clear hx i1 i2 zb0 zb1 zb2 hs2 hb2 hg hp hh q1 q2 q3 q4 q5 q6
  go_enter Try.func56, Try.ntmps56
  go_wp2_with fail
  generalize (((w.alloc (.cells #[.int .i64 x.sec, .slice A n c, .slice B m d] 26)).alloc (.cells #[.int .i64 p.el, .slice A2 9 c2, .int .i64 p.tag, .slice B2 6 d2] 37)).alloc (.cells #[.int .i64 0, .slice none 0 0, .slice none 0 0] 26)) = w2 at *
  ((with_reducible refine (l11Copy x _ _ _ _ _ _ _ _ _ HX.out hn hm HH.out).mono ?_); rintro e w3 ⟨A3, c3, B3, d3, mid, rfl, hmg, hb3⟩)
  have hs3 := hb3.size
  replace HX := Lib.hid (HX.out.below hb3 (Nat.le_refl _))
  replace I1 := Lib.hid (I1.out.below hb3 (Nat.le_refl _))
  replace I2 := Lib.hid (I2.out.below hb3 (Nat.le_refl _))
  replace Z0 := Lib.hid (Z0.out.below hb3 (Nat.le_refl _))
  replace Z1 := Lib.hid (Z1.out.below hb3 (Nat.le_refl _))
  replace Z2 := Lib.hid (Z2.out.below hb3 (Nat.le_refl _))
  replace HB := Lib.hid (HB.out.trans (hb3.mono HB.out.size))
  have HMG := Lib.hid hmg
  have hm1 := hmg.2.2.1
  have hm2 := hmg.2.2.2
  clear hmg hb3
  -- the mix's copy is stored
  have hal : Below w3.heap.size w3 (w3.alloc (.cells #[.int .i64 x.sec, .slice A3 x.seen.length c3, .slice B3 x.pool.length d3] 26)) := (Below.refl _ _).alloc (Nat.le_refl _) _
  have Z6 : Hid (Blk (w3.alloc (.cells #[.int .i64 x.sec, .slice A3 x.seen.length c3, .slice B3 x.pool.length d3] 26)) w3.heap.size #[.int .i64 x.sec, .slice A3 x.seen.length c3, .slice B3 x.pool.length d3] 26) := heap_alloc_new _ _
  replace HX := Lib.hid (HX.out.below hal (Nat.le_refl _))
  replace I1 := Lib.hid (I1.out.below hal (Nat.le_refl _))
  replace I2 := Lib.hid (I2.out.below hal (Nat.le_refl _))
  replace Z0 := Lib.hid (Z0.out.below hal (Nat.le_refl _))
  replace Z1 := Lib.hid (Z1.out.below hal (Nat.le_refl _))
  replace Z2 := Lib.hid (Z2.out.below hal (Nat.le_refl _))
  replace HB := Lib.hid (HB.out.trans (hal.mono HB.out.size))
  replace HMG := Lib.hid (HMG.out.below hal (Nat.le_refl _))
  have hs4 : w3.heap.size < (w3.alloc (.cells #[.int .i64 x.sec, .slice A3 x.seen.length c3, .slice B3 x.pool.length d3] 26)).heap.size := by simp
  clear hal
  obtain ⟨a0, a1, a2, af⟩ := three_cells Z0.out
  obtain ⟨p0, p1, p2, p3, pf⟩ := four_cells Z1.out
  go_wp2_with fail
  ((with_reducible refine (Sp5.l1Times x.sec p.el _ HG.out HEL.out).mono ?_); rintro e w' ⟨rfl, rfl⟩)
  generalize hse : mulG x.sec p.el = s at *
  have HSE := Lib.hid hse
  clear hse
  go_wp2_with fail
  clear a0 a1 a2 af p0 p1 p2 p3 pf
  generalize (w3.alloc (.cells #[.int .i64 x.sec, .slice A3 x.seen.length c3, .slice B3 x.pool.length d3] 26)) = w4 at *
  ((with_reducible refine (Sp5.l5Peel _ _ _ _ _ _ _ _ x.sec p.el p.tag p.hd p.bd _ I1.out I2.out HG.out HPK.out).mono ?_); rintro e w5 ⟨AM, cm, BM, dm, g1, g2, rfl, hlie, hg1, hg2, hb5⟩)
  rw [show (⟨p.el, p.hd, p.tag, p.bd⟩ : Pkt) = p from rfl] at *
  have hs5 := hb5.size
  replace HX := Lib.hid (HX.out.below hb5 (Nat.le_refl _))
  replace Z0 := Lib.hid (Z0.out.below hb5 (Nat.le_refl _))
  replace Z2 := Lib.hid (Z2.out.below hb5 (Nat.le_refl _))
  replace Z6 := Lib.hid (Z6.out.below hb5 (Nat.le_refl _))
  replace HB := Lib.hid (HB.out.trans (hb5.mono HB.out.size))
  replace HMG := Lib.hid (HMG.out.below hb5 (Nat.le_refl _))
  clear hb5 I1 I2 Z1
  generalize hpe : peelF x.sec p = q at *
  have HPE := Lib.hid hpe
  clear hpe
  have hal : Below w5.heap.size w5 (w5.alloc (.cells #[.int .i64 q.kind, .int .i64 q.next, .int .i64 q.pk.el, .slice AM q.pk.hd.length cm, .int .i64 q.pk.tag, .slice BM q.pk.bd.length dm] 39)) := (Below.refl _ _).alloc (Nat.le_refl _) _
  have Z8 : Hid (Blk (w5.alloc (.cells #[.int .i64 q.kind, .int .i64 q.next, .int .i64 q.pk.el, .slice AM q.pk.hd.length cm, .int .i64 q.pk.tag, .slice BM q.pk.bd.length dm] 39)) w5.heap.size #[.int .i64 q.kind, .int .i64 q.next, .int .i64 q.pk.el, .slice AM q.pk.hd.length cm, .int .i64 q.pk.tag, .slice BM q.pk.bd.length dm] 39) := heap_alloc_new _ _
  replace HX := Lib.hid (HX.out.below hal (Nat.le_refl _))
  replace Z0 := Lib.hid (Z0.out.below hal (Nat.le_refl _))
  replace Z2 := Lib.hid (Z2.out.below hal (Nat.le_refl _))
  replace Z6 := Lib.hid (Z6.out.below hal (Nat.le_refl _))
  replace HB := Lib.hid (HB.out.trans (hal.mono HB.out.size))
  replace HMG := Lib.hid (HMG.out.below hal (Nat.le_refl _))
  have HLI := Lib.hid (hlie.below hal (Nat.le_refl _))
  have hs6 : w5.heap.size < (w5.alloc (.cells #[.int .i64 q.kind, .int .i64 q.next, .int .i64 q.pk.el, .slice AM q.pk.hd.length cm, .int .i64 q.pk.tag, .slice BM q.pk.bd.length dm] 39)).heap.size := by simp
  clear hal hlie
  cases hok : peelOk x.sec p
  · have HC := Lib.hid (takeC_wrong hok)
    have HM : Hid (takeM x p = x) := takeM_no (by rw [HC.out]; decide)
    clear hok
    obtain ⟨u0, u1, u2, uf⟩ := three_cells Z6.out
    obtain ⟨r0, r1, r2, rf⟩ := three_cells Z2.out
    go_wp2
    refine bodyPost_ret (v := .tuple #[.agg #[.int .i64 x.sec, .slice A3 x.seen.length c3, .slice B3 x.pool.length d3], .int .i64 2]) ?_ rfl ?_
    · rw [results_cell_tmp rfl]
      go_simp
    · rw [HC.out, HM.out]
      exact mixS_fin HMG.out (by omega) (by omega) (by omega) (by omega) HB.out _ _ _ _
  have HOK := Lib.hid hok
  clear hok
  obtain ⟨a0, a1, a2, af⟩ := three_cells Z0.out
  go_wp2_with fail
  generalize (w5.alloc (.cells #[.int .i64 q.kind, .int .i64 q.next, .int .i64 q.pk.el, .slice AM q.pk.hd.length cm, .int .i64 q.pk.tag, .slice BM q.pk.bd.length dm] 39)) = w6 at *
  ((with_reducible refine (l1Has _ _ _ _ _ x.seen s _ HX.out.keys).mono ?_); rintro e w' ⟨rfl, rfl⟩)
  cases hct : has x.seen s
  case true =>
    have HC : Hid (takeC x p = 1) := takeC_replay HOK.out (by rw [HSE.out]; exact hct)
    have HM : Hid (takeM x p = x) := takeM_no (by rw [HC.out]; decide)
    clear hct
    obtain ⟨u0, u1, u2, uf⟩ := three_cells Z6.out
    obtain ⟨r0, r1, r2, rf⟩ := three_cells Z2.out
    go_wp2
    refine bodyPost_ret (v := .tuple #[.agg #[.int .i64 x.sec, .slice A3 x.seen.length c3, .slice B3 x.pool.length d3], .int .i64 1]) ?_ rfl ?_
    · rw [results_cell_tmp rfl]
      go_simp
    · rw [HC.out, HM.out]
      exact mixS_fin HMG.out (by omega) (by omega) (by omega) (by omega) HB.out _ _ _ _
  case false =>
  have HCT := Lib.hid hct
  clear hct
  by_cases hf : 12 ≤ n ∨ 5 ≤ m
  · have HC : Hid (takeC x p = 3) := takeC_full HOK.out (by rw [HSE.out]; exact HCT.out) (by rw [L1.out, L2.out]; exact hf)
    have HM : Hid (takeM x p = x) := takeM_no (by rw [HC.out]; decide)
    obtain ⟨u0, u1, u2, uf⟩ := three_cells Z6.out
    obtain ⟨r0, r1, r2, rf⟩ := three_cells Z2.out
    by_cases h12 : 12 ≤ n
    · have e12 : decide (12 ≤ (n : Int)) = true := by simp; omega
      clear hf
      go_wp2
      refine bodyPost_ret (v := .tuple #[.agg #[.int .i64 x.sec, .slice A3 x.seen.length c3, .slice B3 x.pool.length d3], .int .i64 3]) ?_ rfl ?_
      · rw [results_cell_tmp rfl]
        go_simp
      · rw [HC.out, HM.out]
        exact mixS_fin HMG.out (by omega) (by omega) (by omega) (by omega) HB.out _ _ _ _
    · have e12 : decide (12 ≤ (n : Int)) = false := by simp; omega
      have e5 : decide (5 ≤ (m : Int)) = true := by simp; omega
      clear hf
      go_wp2
      refine bodyPost_ret (v := .tuple #[.agg #[.int .i64 x.sec, .slice A3 x.seen.length c3, .slice B3 x.pool.length d3], .int .i64 3]) ?_ rfl ?_
      · rw [results_cell_tmp rfl]
        go_simp
      · rw [HC.out, HM.out]
        exact mixS_fin HMG.out (by omega) (by omega) (by omega) (by omega) HB.out _ _ _ _
  have e12 : decide (12 ≤ (n : Int)) = false := by simp; omega
  have e5 : decide (5 ≤ (m : Int)) = false := by simp; omega
  have HC : Hid (takeC x p = 0) := takeC_done HOK.out (by rw [HSE.out]; exact HCT.out) (by rw [L1.out, L2.out]; exact hf)
  have HM : Hid (takeM x p = ⟨x.sec, x.seen ++ [s], x.pool ++ [q]⟩) := by
    show _ = _
    rw [takeM_yes HC.out, HSE.out, HPE.out]
  obtain ⟨⟨g, hd, hgk⟩, hpd, _, _⟩ := HMG.out
  have hdl := dest_lt hd
  have L1' := L1.out
  have L2' := L2.out
  have hns : x.seen.length + 1 ≤ 1000000 := by omega
  have hnp : x.pool.length ≤ 100000 := by omega
  have hal : Below w6.heap.size w6 (w6.alloc (.cells #[.int .i64 s] 3)) := (Below.refl _ _).alloc (Nat.le_refl _) _
  have HD7 := Lib.hid (dest_keep hd (w' := w6.alloc (.cells #[.int .i64 s] 3)) (fun k e => hal.block k (hdl k e)))
  have HR7 := Lib.hid (ints_row (ints_lit1 w6 s))
  have HPD := Lib.hid hpd
  have HGK := Lib.hid hgk
  have HDL := Lib.hid hdl
  obtain ⟨u0, u1, u2, uf⟩ := three_cells Z6.out
  clear hd hpd hgk hdl hal hf L1' L2'
  have hhh : mid ≤ w3.heap.size := hm2
  go_upto_region 11 with (at_builtin; refine wpList_appD elInt _ _ _ _ _ HD7.out _ _ _ _ _ _ HR7.out (ints_one_cell [s]) hns (.tmp 47) (.tmp 49) rfl rfl rfl rfl ?_; intro g7 v7 w7 hd7 hg7 hgr7; rw [← List.map_append] at hd7; obtain ⟨A7, c7, b7, rfl, ho7, hk7⟩ := dest_ints hd7; have hk67 : ∀ y, y < w6.heap.size → (y < w2.heap.size ∨ mid ≤ y) → w7.heap[y]? = w6.heap[y]? := (fun y h1 h2 => (hgr7.block y (by simp; omega) (fun e => by have := HGK.out y e.symm; omega)).trans (Below.heap_alloc _ _ _ h1)); have z6 : Blk w7 w3.heap.size _ _ := (hk67 _ (by omega) (by omega)).trans Z6.out; obtain ⟨s0, s1, s2, sf⟩ := three_cells z6)
  have hs7 : w6.heap.size < w7.heap.size := by
    have := hgr7.size
    simp at this; omega
  have z61 := blk3_set1 (v := .slice A7 (x.seen.length + 1) c7) z6
  have h8k : ∀ y, y ≠ w3.heap.size → (w7.setCell ⟨w3.heap.size, 1, none⟩ (.slice A7 (x.seen.length + 1) c7)).heap[y]? = w7.heap[y]? := fun y h => Below.heap_setCell _ _ _ _ h
  have h8s : (w7.setCell ⟨w3.heap.size, 1, none⟩ (.slice A7 (x.seen.length + 1) c7)).heap.size = w7.heap.size := by simp [World.setCell]
  have h8b : Below w.heap.size w (w7.setCell ⟨w3.heap.size, 1, none⟩ (.slice A7 (x.seen.length + 1) c7)) := by
    have h1 : Below w.heap.size w (w6.alloc (.cells #[.int .i64 s] 3)) := HB.out.alloc HB.out.size _
    exact (h1.grown hgr7 (by simp; have := HB.out.size; omega) (fun k e => by have := HGK.out k e; omega)).setCell (show w.heap.size ≤ w3.heap.size by omega) _
  clear u0 u1 u2 uf s0 s1 s2 sf
  generalize (w7.setCell ⟨w3.heap.size, 1, none⟩ (.slice A7 (x.seen.length + 1) c7)) = w8 at *
  have h68 : ∀ y, y < w6.heap.size → (y < w2.heap.size ∨ mid ≤ y) → y ≠ w3.heap.size → w8.heap[y]? = w6.heap[y]? := fun y q1 q2 q3 => (h8k y q3).trans (hk67 y q1 q2)
  have hs8 : w6.heap.size ≤ w8.heap.size := by omega
  have hs8a : w7.heap.size ≤ w8.heap.size := by omega
  have hs8b : w8.heap.size ≤ w7.heap.size := by omega
  clear h8s
  have Z8' : Hid (Blk w8 w5.heap.size _ _) := (h68 _ (by omega) (by omega) (by omega)).trans Z8.out
  have Z2' : Hid (Blk w8 (w.heap.size + 1 + 1) _ _) := (h68 _ (by omega) (by omega) (by omega)).trans Z2.out
  have Z6' := Lib.hid z61
  have D8 := Lib.hid (dest_keep hd7 (w' := w8) (fun k e => h8k k (by
    rcases hg7 with q | ⟨k', q, hk⟩
    · rw [q] at e; have := HGK.out k e; omega
    · rw [q] at e; simp at e hk; omega)))
  have D8L : Hid (∀ k, g7 = some k → (w2.heap.size ≤ k ∧ k < mid) ∨ (w6.heap.size < k ∧ k < w8.heap.size)) := fun k e => by
    rcases hg7 with q | ⟨k', q, hk⟩
    · rw [q] at e; have := HGK.out k e; omega
    · have h3 := dest_lt D8.out k e
      rw [q] at e; simp at e hk; omega
  have HPD8 := Lib.hid (HPD.out.keep hs8 (fun y q1 q2 q3 => h68 y q3 (by omega) (by omega)))
  have hl1 := Hlp5.lies_lt HLI.out
  have HSO : Hid (SlotO w8 ⟨q, AM, cm, BM, dm, g1, g2⟩) := ⟨own_keepC HLI.out.1 hs8 (fun h => h68 g1 (by have := hl1.1 h; omega) (by omega) (by omega)), own_keepC HLI.out.2.1 hs8 (fun h => h68 g2 (by have := hl1.2 h; omega) (by omega) (by omega))⟩
  have HSF : Hid (∀ y ∈ fpS ⟨q, AM, cm, BM, dm, g1, g2⟩, w3.heap.size < y ∧ y < w6.heap.size) := fun y hy => by
    rcases List.mem_append.1 hy with h | h
    · obtain ⟨q1, q2⟩ := mem_fp.1 h
      have := hl1.1 q1
      dsimp only at q2; omega
    · obtain ⟨q1, q2⟩ := mem_fp.1 h
      have := hl1.2 q1
      dsimp only at q2; omega
  have HSN := Lib.hid (slot_nodup ⟨q, AM, cm, BM, dm, g1, g2⟩ HLI.out.2.2)
  have HB8 := Lib.hid h8b
  obtain ⟨y0, y1, y2, y3, y4, y5, yf⟩ := six_cells Z8'.out
  obtain ⟨u0, u1, u2, uf⟩ := three_cells Z6'.out
  clear h68 hk67 h8k hgr7 hg7 hd7 ho7 hk7 z6 z61 h8b hl1 HPD HLI HMG HD7 HR7 Z8 Z2 Z6 HX Z0 a0 a1 a2 af
  go_upto_region 12 with (at_builtin; refine wpList_gatD (x := ⟨q, AM, cm, BM, dm, g1, g2⟩) HPD8.out HSO.out (fun y hy => Nat.le_of_lt (HSF.out y hy).1) HSN.out hhh (by omega) hnp (.tmp 53) (.tmp 55) rfl rfl rfl rfl ?_; intro v9 w9 hQ9 hB9 hK9; obtain ⟨A9, c9, G9, rfl, ho9, hw9⟩ := hQ9.own; have z9 : Blk w9 w3.heap.size _ _ := (hK9 _ (by omega) (by omega)).trans Z6'.out; obtain ⟨s0, s1, s2, sf⟩ := three_cells z9)
  have hl9 : (x.pool ++ [(⟨q, AM, cm, BM, dm, g1, g2⟩ : Slot).p]).length = (takeM x p).pool.length := by rw [HM.out]
  have hl7 : x.seen.length + 1 = (takeM x p).seen.length := by rw [HM.out]; simp
  have hs9 := hB9.size
  have d8 := D8.out
  rw [hl7] at d8
  rw [hl9] at hQ9
  have hmo := mixD_app (y := takeM x p) (lo := w2.heap.size) (M1 := w6.heap.size) (by rw [show (takeM x p).seen = x.seen ++ [s] by rw [HM.out]] at d8 ⊢; exact d8) D8L.out (by rw [show (takeM x p).pool = x.pool ++ [q] by rw [HM.out]] at hQ9 ⊢; exact hQ9) (fun y hy => by have := HSF.out y hy; omega) hK9 hm1 hm2 (by omega) (by omega) hs9 (.slice A9 (takeM x p).pool.length c9) 2
  have z2 : Blk w9 (w.heap.size + 1 + 1) _ _ := (hK9 _ (by omega) (by omega)).trans Z2'.out
  have z2b := blk_far z2 (q := ⟨w3.heap.size, 2, none⟩) (by show w.heap.size + 1 + 1 ≠ w3.heap.size; omega) (.slice A9 (takeM x p).pool.length c9)
  have hbw : Below w.heap.size w w9 := HB8.out.trans (hB9.mono (by omega))
  have z91 := blk3_set2 (v := .slice A9 (takeM x p).pool.length c9) z9
  have h10s : (w9.setCell ⟨w3.heap.size, 2, none⟩ (.slice A9 (takeM x p).pool.length c9)).heap.size = w9.heap.size := by simp [World.setCell]
  have hbw2 := hbw.setCell (p := ⟨w3.heap.size, 2, none⟩) (show w.heap.size ≤ w3.heap.size by omega) (.slice A9 (takeM x p).pool.length c9)
  have hl9b : x.pool.length + 1 = (takeM x p).pool.length := by rw [HM.out]; simp
  rw [hl9b]
  rw [hl7] at z91 s1 ⊢
  have HMO := Lib.hid hmo
  have HBW := Lib.hid hbw2
  have HZ2 := Lib.hid z2b
  have HZ9 := Lib.hid z91
  have HSX := Lib.hid (And.intro (Nat.le_of_eq h10s) (Nat.le_of_eq h10s.symm))
  clear y0 y1 y2 y3 y4 y5 yf u0 u1 u2 uf s0 s1 s2 sf hbw hbw2 z2 z2b z9 z91 h10s hmo hQ9 ho9 hw9 hB9 hK9 d8 hl7 hl9 hl9b hs9 D8 D8L HSO HSF HSN HB8 Z8' Z2' Z6' HPD8
  generalize (w9.setCell ⟨w3.heap.size, 2, none⟩ (.slice A9 (takeM x p).pool.length c9)) = w10 at *
  obtain ⟨u0, u1, u2, uf⟩ := three_cells HZ9.out
  obtain ⟨r0, r1, r2, rf⟩ := three_cells HZ2.out
  have HSEC : Hid ((takeM x p).sec = x.sec) := by show _ = _; rw [HM.out]
  go_wp2
  refine bodyPost_ret (v := .tuple #[.agg #[.int .i64 x.sec, .slice A7 (takeM x p).seen.length c7, .slice A9 (takeM x p).pool.length c9], .int .i64 0]) ?_ rfl ?_
  · rw [results_cell_tmp rfl]
    go_simp
  · rw [HC.out]
    exact ⟨A7, c7, A9, c9, by rw [HSEC.out], (HMO.out.fin (by omega) _ _ _).lower (by omega), ((HBW.out.setCell (show w.heap.size ≤ w.heap.size + 1 + 1 by omega) _).setCell (show w.heap.size ≤ w.heap.size + 1 + 1 by omega) _).setCell (show w.heap.size ≤ w.heap.size + 1 + 1 by omega) _⟩
theorem l11Take (x : Mx) (p : Pkt) (A B A2 B2 : Option Addr) (n c m d c2 d2 lo hi l1 h1 l2 h2 : Nat) (w : World) (hx : MixR lo hi w A n c B m d x) (i1 : Ints l1 h1 w A2 p.hd.length c2 p.hd) (i2 : Ints l2 h2 w B2 p.bd.length d2 p.bd)
    (hn : n ≤ 1000) (hm : m ≤ 1000) (hh : ∀ p ∈ x.pool, p.pk.hd.length ≤ 1000 ∧ p.pk.bd.length ≤ 1000) (hg : inG x.sec = true) (hp : pktOk p = true) :
    Calls Try.prog 56 #[.agg #[.int .i64 x.sec, .slice A n c, .slice B m d], .agg #[.int .i64 p.el, .slice A2 p.hd.length c2, .int .i64 p.tag, .slice B2 p.bd.length d2]] w (MixB (takeM x p) (.int .i64 (takeC x p)) w) :=
  (l11TakeS x p A B A2 B2 n c m d c2 d2 lo hi l1 h1 l2 h2 w hx i1 i2 hn hm hh hg hp).mono fun _ _ h => h.b

end Sp6
end Go.Proofs.Ytnjcpbkpcmemeac
