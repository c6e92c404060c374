/-
  Contracts of the model's chapter 13: new caches, the keys of an epoch.
-/
import Derived.Test.YtmmnpmfkpieoiaaSp8
import Derived.Test.YtmmnpmfkpieoiaaIla
import Derived.Deep.RegionLaw
namespace Go.Proofs.Ytmmnpmfkpieoiaa
open Go.RowKit
namespace Sp8
open Il Sl Fo Cm Cs Sg Gm

def NRel (w wr : World) (e : Int) (v : Value) (j : Nat) : Prop :=
  Blk wr w.heap.size #[.int .i64 0, .slice none 0 0] 26 ∧ Blk wr (w.heap.size + 1) #[.int .i64 e, v] 26 ∧ Below w.heap.size w wr ∧
  ∃ ss : List Sk, GatK (w.heap.size + 1 + 1) wr.heap.size wr v ss ∧ ss.map (·.xs) = List.replicate j []
theorem n_two (w : World) (a b : Array Value) (t1 t2 : TypeId) :
    Blk ((w.alloc (.cells a t1)).alloc (.cells b t2)) w.heap.size a t1 ∧ Blk ((w.alloc (.cells a t1)).alloc (.cells b t2)) (w.heap.size + 1) b t2 ∧ ((w.alloc (.cells a t1)).alloc (.cells b t2)).heap.size = w.heap.size + 1 + 1 ∧ Below w.heap.size w ((w.alloc (.cells a t1)).alloc (.cells b t2)) := by
  have h1 := (Below.refl w.heap.size w).alloc (Nat.le_refl _) (.cells a t1)
  have h2 := h1.alloc h1.size (.cells b t2)
  have e1 : (w.alloc (.cells a t1)).heap.size = w.heap.size + 1 := by simp
  refine ⟨(Below.heap_alloc _ _ _ (by omega)).trans (heap_alloc_new _ _), ?_, by simp, h2⟩
  have := heap_alloc_new (w.alloc (.cells a t1)) (.cells b t2)
  rw [e1] at this
  exact this
set_option maxRecDepth 20000 in
set_option maxHeartbeats 1000000 in
theorem CacheNew (e : Int) (w : World) : Calls Try.prog 19 #[.int .i64 e] w (CacheP (newF e) (.bool (epOk e)) w) := by
  have h0 : Below w.heap.size w (w.alloc (.cells #[.int .i64 0, .slice none 0 0] 26)) := (Below.refl _ _).alloc (Nat.le_refl _) _
  cases he : epOk e
  · have HM : Hid (newF e = Ch.zero) := by show newF e = _; unfold newF; rw [he]; rfl
    rw [HM.out]
    have B0 := Lib.hid h0
    clear h0
    go_enter Try.func19, Try.ntmps19
    go_wp2_with fail
    ((with_reducible refine (l6In e 0 99 _).mono ?_); rintro e w1 ⟨rfl, rfl⟩)
    rw [show decide (0 ≤ e ∧ e ≤ 99) = false from he]
    clear he
    go_wp2
    refine bodyPost_ret (v := .tuple #[.agg #[.int .i64 0, .slice none 0 0], .bool false]) ?_ rfl (cacheP_zero _ ?_)
    · rw [results_cell_tmp rfl]
      go_simp
    · exact B0.out
  · have HM : Hid (newF e = ⟨e, [[], [], []]⟩) := by show newF e = _; unfold newF; rw [he]; rfl
    obtain ⟨z0, z1, hs2, hb2⟩ := n_two w #[.int .i64 0, .slice none 0 0] #[.int .i64 e, .slice none 0 0] 26 26
    have HR0 : Hid (NRel w ((w.alloc (.cells #[.int .i64 0, .slice none 0 0] 26)).alloc (.cells #[.int .i64 e, .slice none 0 0] 26)) e (.slice none 0 0) 0) := ⟨z0, z1, hb2, [], GatK.nil_ _, rfl⟩
    clear z0 z1 hs2 hb2 h0
    go_enter Try.func19, Try.ntmps19
    go_wp2_with fail
    ((with_reducible refine (l6In e 0 99 _).mono ?_); rintro e w1 ⟨rfl, rfl⟩)
    rw [show decide (0 ≤ e ∧ e ≤ 99) = true from he]
    clear he
    go_wp2
    go_loopw [5] (fun i wr => ∃ (j : Nat) (v : Value), j ≤ 3 ∧ i = .int .i64 j ∧ Hid (NRel w wr e v j)) (fun i _ => 3 - (intOf i).toNat)
    case atStart => exact ⟨0, _, by omega, rfl, HR0.out⟩
    case round =>
      obtain ⟨j, v, hj, rfl, hR⟩ := hrel
      clear HR0
      obtain ⟨k0, k1, hbw, ss, hgk, hss⟩ := hR.out
      clear hR
      by_cases hlt : j < 3
      · have hl3 : (j : Int) < 3 := by omega
        have hssl : ss.length = j := by
          have h1 : (ss.map (·.xs)).length = (List.replicate j ([] : List Int)).length := by rw [hss]
          simpa using h1
        have hal : Below wr.heap.size wr (wr.alloc (.cells #[] 3)) := (Below.refl _ _).alloc (Nat.le_refl _) _
        obtain ⟨y0, y1, yf⟩ := two_cells k1
        have HGK := Lib.hid (hgk.below hal (Nat.le_refl _))
        have HK0 := Lib.hid (k0.below hal (Nat.le_refl _))
        have HK1 := Lib.hid (k1.below hal (Nat.le_refl _))
        have HBW := Lib.hid (hbw.alloc hbw.size (.cells #[] 3))
        have HSS := Lib.hid hss
        have hw2 : w.heap.size + 1 < wr.heap.size := k1.lt
        have hs1 : (wr.alloc (.cells #[] 3)).heap.size = wr.heap.size + 1 := by simp
        have HSK : Hid (SkO (wr.alloc (.cells #[] 3)) ⟨[], some ⟨wr.heap.size, 0, none⟩, 0, 0⟩) := Own.nil_ (Nat.zero_le _)
        clear hgk k0 k1 hbw hss hal
        go_wp2_with (at_builtin; refine wpList_gatK (x := ⟨[], some ⟨wr.heap.size, 0, none⟩, 0, 0⟩) HGK.out HSK.out (fun y hy => by simp [fpk, fp] at hy) (by omega) (by omega) (by omega) _ _ rfl rfl rfl (by go_simp) ?_; intro v6 w6 hg6 hb6 hk6; obtain ⟨A6, m6, c6, rfl⟩ := hg6.sl; obtain ⟨y6, y61, y6f⟩ := two_cells (HK1.out.same (hk6 _ (by omega) (.inl (by omega)))))
        have hs6 := hb6.size
        have hsz6 : (w6.setCell ⟨w.heap.size + 1, 1, none⟩ (.slice A6 m6 c6)).heap.size = w6.heap.size := by simp [World.setCell]
        have HR6 : Hid (NRel w (w6.setCell ⟨w.heap.size + 1, 1, none⟩ (.slice A6 m6 c6)) e (.slice A6 m6 c6) (j + 1)) := by
          refine ⟨HK0.out.same ((Below.heap_setCell _ _ _ _ (show w.heap.size ≠ w.heap.size + 1 by omega)).trans (hk6 _ (by omega) (.inl (by omega)))), blk_set1 (HK1.out.same (hk6 _ (by omega) (.inl (by omega)))), (HBW.out.trans (hb6.mono (by omega))).setCell (p := ⟨w.heap.size + 1, 1, none⟩) (show w.heap.size ≤ w.heap.size + 1 by omega) _, _, (hg6.keep (by omega) fun x h1 h2 h3 => Below.heap_setCell _ _ _ _ (show x ≠ w.heap.size + 1 by omega)).mono (Nat.le_refl _) (by omega), ?_⟩
          rw [List.map_append, HSS.out, List.replicate_succ']
          rfl
        clear hg6 hb6 hk6 HGK HK0 HK1 HSK y0 y1 yf y6 y61 y6f hs1
        go_wp2
        go_roundw
        case rel => exact ⟨j + 1, _, by omega, by go_num, HR6.out⟩
        case measure => simp [intOf]; omega
      · obtain rfl : j = 3 := by omega
        obtain ⟨A9, c9, G, rfl, ho, hw9⟩ := hgk.own
        have hlen : ss.length = 3 := by
          have h1 : (ss.map (·.xs)).length = (List.replicate 3 ([] : List Int)).length := by rw [hss]
          simpa using h1
        rw [hss, hlen] at ho
        rw [hlen] at k1
        have hsz : ((wr.setCell ⟨w.heap.size, 0, none⟩ (.int .i64 e)).setCell ⟨w.heap.size, 1, none⟩ (.slice A9 3 c9)).heap.size = wr.heap.size := by simp [World.setCell]
        have HP : Hid (CacheP (newF e) (.bool true) w (.returned (.tuple #[.agg #[.int .i64 e, .slice A9 3 c9], .bool true])) ((wr.setCell ⟨w.heap.size, 0, none⟩ (.int .i64 e)).setCell ⟨w.heap.size, 1, none⟩ (.slice A9 3 c9))) := by
          show CacheP _ _ _ _ _
          rw [HM.out]
          exact ⟨A9, c9, G, rfl, ho.keep (by omega) fun f hf x hx => (Below.heap_setCell _ _ _ _ (show x ≠ w.heap.size by have := hw9 f hf x hx; omega)).trans (Below.heap_setCell _ _ _ _ (show x ≠ w.heap.size by have := hw9 f hf x hx; omega)),
            fun f hf x hx => by have := hw9 f hf x hx; omega, (hbw.setCell (p := ⟨w.heap.size, 0, none⟩) (Nat.le_refl _) _).setCell (p := ⟨w.heap.size, 1, none⟩) (Nat.le_refl _) _⟩
        obtain ⟨y0, y1, yf⟩ := two_cells k1
        obtain ⟨x0, x1, xf⟩ := two_cells k0
        clear ho hw9 hgk hss hlen hsz hbw k0 k1 hlt
        go_wp2
        refine bodyPost_ret (v := .tuple #[.agg #[.int .i64 e, .slice A9 3 c9], .bool true]) ?_ rfl ?_
        · rw [results_cell_tmp rfl]
          go_simp
        · exact HP.out

end Sp8
end Go.Proofs.Ytmmnpmfkpieoiaa
