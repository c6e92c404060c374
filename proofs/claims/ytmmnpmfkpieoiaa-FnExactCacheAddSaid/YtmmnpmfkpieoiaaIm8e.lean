/-
  Contracts of the program's chapter 13: linked slots become a cache.
-/
import Derived.Test.YtmmnpmfkpieoiaaIm8d
import Derived.Deep.Cut
namespace Go.Proofs.Ytmmnpmfkpieoiaa
open Go.RowKit
namespace Im8
open Il Sl Fo Cm Cs Sg Gm

/-! ### lists gathered, not what they hold -/
def SpK (lo hi : Nat) (w : World) (v : Value) (vs : List Value) : Prop := ∃ g : Option Nat, Dest 30 1 g w v vs.length vs ∧ ∀ k ∈ g.toList, lo ≤ k ∧ k < hi
theorem SpK.sl {lo hi : Nat} {w : World} {v : Value} {vs : List Value} (h : SpK lo hi w v vs) : ∃ A m c, v = .slice A m c := by
  obtain ⟨g, h | ⟨k, _, cap, rfl, _⟩, _⟩ := h
  · obtain ⟨_, _, _, A, rfl⟩ := h
    exact ⟨A, 0, 0, rfl⟩
  · exact ⟨_, _, _, rfl⟩
theorem SpK.keep {lo hi : Nat} {w w' : World} {v : Value} {vs : List Value} (h : SpK lo hi w v vs) (hk : ∀ x, lo ≤ x → x < hi → w'.heap[x]? = w.heap[x]?) : SpK lo hi w' v vs := by
  obtain ⟨g, h1, h2⟩ := h
  exact ⟨g, dest_keep h1 fun k e => hk k (h2 k (by rw [e]; simp)).1 (h2 k (by rw [e]; simp)).2, h2⟩
theorem run_spK {lo M : Nat} {w : World} {v : Value} {vs : List Value} (h : SpK lo M w v vs) (u : Value) (hu : u.oneCell' = true) (hlo : lo ≤ M) (hM : M ≤ w.heap.size) (hl : vs.length ≤ 100000) (ty : TypeId) :
    ∃ v' w', (Builtin.append_ #[24, 24] ty #[v, .slice (some ⟨w.heap.size, 0, none⟩) 1 1]).run Try.prog (w.alloc (.cells #[u] 30)) = .ok v' w' ∧ SpK lo w'.heap.size w' v' (vs ++ [u]) ∧ Below lo w w' := by
  have hal : Below w.heap.size w (w.alloc (.cells #[u] 30)) := (Below.refl _ _).alloc (Nat.le_refl _) _
  obtain ⟨g, h1, h2⟩ := h
  have h1' : Dest 30 1 g (w.alloc (.cells #[u] 30)) v vs.length vs := dest_keep h1 fun k e => hal.block k (dest_lt h1 k e)
  obtain ⟨g', v', w', hr, hd, hg, hgr⟩ := run_appD elSk ty h1' (row_lit w 30 [u] rfl) (fun x hx => by simp at hx; subst hx; exact hu) (by omega)
  have hsz : (w.alloc (.cells #[u] 30)).heap.size = w.heap.size + 1 := by simp
  have hgs := hgr.size
  refine ⟨v', w', hr, ⟨g', by rw [List.length_append]; exact hd, fun k hk => ?_⟩, ⟨hgr.os.trans hal.os, hgr.tape.trans hal.tape, hgr.output.trans hal.output, by omega, fun y hy => ?_⟩⟩
  · have hk' : g' = some k := by simpa using hk
    refine ⟨?_, dest_lt hd k hk'⟩
    rcases hg with e | ⟨q, e, hq⟩
    · exact (h2 k (by rw [← e, hk']; simp)).1
    · rw [hk'] at e; cases e; omega
  · refine (hgr.block y (by omega) fun e => ?_).trans (hal.block y (by omega))
    have := (h2 y (by rw [← e]; simp)).1
    omega
theorem step_spK {o : Oper} {a : Act} {Q : Exit → Act → World → Prop} {K : Act → World → Prop} {ops : Array Oper} {E : Prop} {lo M : Nat} {w : World} {v : Value} {vs : List Value} (hgp : SpK lo M w v vs) (x : Value) (hx : x.oneCell' = true) (hlo : lo ≤ M) (hM : M ≤ w.heap.size) (hl : vs.length ≤ 100000) (s y : Operand)
    (hgd : o.guard = none) (ho : o.op = .call { callee := .builtin .append, args := #[s, y], argTypes := #[24, 24] }) (hsv : a.eval s = v) (hy : a.eval y = .slice (some ⟨w.heap.size, 0, none⟩) 1 1)
    (h : ∀ v' w', SpK lo w'.heap.size w' v' (vs ++ [x]) → Below lo w w' → K (a.put o.dst v') w') : if Region.wanted o (yielded ops a.tmps) = true then Oper.wp Try.prog o a (w.alloc (.cells #[x] 30)) K Q else E := by
  have hw : Region.wanted o (yielded ops a.tmps) = true := by simp [Region.wanted, hgd]
  rw [if_pos hw]
  obtain ⟨v', w', hr, q1, q2⟩ := run_spK hgp x hx hlo hM hl o.type
  unfold Oper.wp execOp
  simp only [ho, resolve, invoke, builtin, Sem.run_bind, Sem.run_pure, Result.andThen_ok, List.map_toArray, List.map_cons, List.map_nil, hsv, hy, hr]
  exact h v' w' q1 q2

def lastE (P : List Nd) : Int := (P.getLast?.map (·.ep)).getD 0
theorem lastE_snoc (P : List Nd) (nd : Nd) : lastE (P ++ [nd]) = nd.ep := by simp [lastE]
/-- What has been gathered of the slots. -/
def CaRel (w wr : World) (P L : List Nd) (a : Option Addr) (v : Value) : Prop :=
  Blk wr w.heap.size #[.int .i64 0, .slice none 0 0] 26 ∧ Blk wr (w.heap.size + 1) #[.int .i64 (lastE P), v] 26 ∧ ChN w a L ∧ Below w.heap.size w wr ∧ SpK (w.heap.size + 1 + 1) wr.heap.size wr v (P.map fun nd => nd.s.cell)
theorem ca_step {w wr w6 : World} {P L : List Nd} {nd : Nd} {a u : Option Addr} {v v6 : Value} (h : CaRel w wr P (nd :: L) a v) (hu : ChN w u L) (hb : Below (w.heap.size + 1 + 1) wr w6) (hs : SpK (w.heap.size + 1 + 1) w6.heap.size w6 v6 ((P.map fun nd => nd.s.cell) ++ [nd.s.cell])) :
    CaRel w ((w6.setCell ⟨w.heap.size + 1, 0, none⟩ (.int .i64 nd.ep)).setCell ⟨w.heap.size + 1, 1, none⟩ v6) (P ++ [nd]) L u v6 := by
  obtain ⟨k0, k1, _, hbw, _⟩ := h
  have j0 : Blk w6 w.heap.size #[.int .i64 0, .slice none 0 0] 26 := k0.same (hb.block _ (by omega))
  have j1 : Blk w6 (w.heap.size + 1) #[.int .i64 (lastE P), v] 26 := k1.same (hb.block _ (by omega))
  have h1 := blk_set1 (v := v6) (blk_set0 (v := .int .i64 nd.ep) j1)
  have hsz : ((w6.setCell ⟨w.heap.size + 1, 0, none⟩ (.int .i64 nd.ep)).setCell ⟨w.heap.size + 1, 1, none⟩ v6).heap.size = w6.heap.size := by simp [World.setCell]
  have hoth : ∀ x, x ≠ w.heap.size + 1 → ((w6.setCell ⟨w.heap.size + 1, 0, none⟩ (.int .i64 nd.ep)).setCell ⟨w.heap.size + 1, 1, none⟩ v6).heap[x]? = w6.heap[x]? := fun x hx => (Below.heap_setCell _ _ _ _ hx).trans (Below.heap_setCell _ _ _ _ hx)
  have hB : Below w.heap.size w ((w6.setCell ⟨w.heap.size + 1, 0, none⟩ (.int .i64 nd.ep)).setCell ⟨w.heap.size + 1, 1, none⟩ v6) := ((hbw.trans (hb.mono (by omega))).setCell (p := ⟨w.heap.size + 1, 0, none⟩) (show w.heap.size ≤ w.heap.size + 1 by omega) _).setCell (p := ⟨w.heap.size + 1, 1, none⟩) (show w.heap.size ≤ w.heap.size + 1 by omega) _
  generalize (w6.setCell ⟨w.heap.size + 1, 0, none⟩ (.int .i64 nd.ep)).setCell ⟨w.heap.size + 1, 1, none⟩ v6 = w7 at *
  refine ⟨j0.same (hoth _ (by omega)), by rw [lastE_snoc]; exact h1, hu, hB, ?_⟩
  rw [List.map_append, hsz]
  exact hs.keep fun x h1 _ => hoth x (by omega)

/-- A cache whose slots lie from lo on. -/
def OutP (lo : Nat) (ep : Int) (xss : List (List Int)) (w : World) (e : Ending) (w' : World) : Prop :=
  ∃ A k G, e = .returned (.agg #[.int .i64 ep, .slice A xss.length k]) ∧ StsO w' A xss.length k xss G ∧ Within lo w'.heap.size G ∧ Below w.heap.size w w'
theorem chN_mem {w : World} {nd : Nd} : ∀ {L : List Nd} {a : Option Addr}, ChN w a L → nd ∈ L → KdO w nd.s ∧ ∃ u, NdB w nd u
  | [], _, _, hm => by simp at hm
  | z :: L, _, ⟨u, _, hb, hz, hn⟩, hm => by
    rcases List.mem_cons.1 hm with e | hm
    · subst e; exact ⟨hz, u, hb⟩
    · exact chN_mem hn hm
theorem fpk_foot {w : World} : ∀ {L : List Nd} {a : Option Addr}, ChN w a L → Foot (FpN L) → Foot (L.map fun nd => fpk nd.s.sk)
  | [], _, _, _ => by simp [Foot]
  | nd :: L, _, ⟨_, _, _, hs, hn⟩, hf => by
    unfold Foot FpN at hf
    rw [List.flatMap_cons] at hf
    have h1 := List.pairwise_append.1 hf
    unfold Foot
    rw [List.map_cons, List.pairwise_cons]
    refine ⟨fun f hf2 x q1 q2 => ?_, fpk_foot hn h1.2.1⟩
    obtain ⟨nd2, hm, rfl⟩ := List.mem_map.1 hf2
    exact h1.2.2 _ (List.mem_cons_of_mem _ (List.mem_singleton.2 rfl)) _ (List.mem_flatMap.2 ⟨nd2, hm, List.mem_cons_of_mem _ (List.mem_singleton.2 rfl)⟩) x (fpk_sub hs x q1) (fpk_sub (chN_mem hn hm).1 x q2)
theorem fpk_at {lo hi : Nat} {L : List Nd} (h : Within lo hi (FpN L)) {w : World} {a : Option Addr} (hc : ChN w a L) : ∀ f ∈ L.map (fun nd => fpk nd.s.sk), ∀ x ∈ f, lo ≤ x ∧ x < hi := fun f hf x hx => by
  obtain ⟨nd, hm, rfl⟩ := List.mem_map.1 hf
  exact h _ (List.mem_flatMap.2 ⟨nd, hm, List.mem_cons_of_mem _ (List.mem_singleton.2 rfl)⟩) x (fpk_sub (chN_mem hc hm).1 x hx)
theorem out_sts {lo B : Nat} {w wr : World} {a : Option Addr} {L : List Nd} {v : Value} (hch : ChG lo w.heap.size w a L) (hb : Below w.heap.size w wr) (hs : SpK B wr.heap.size wr v (L.map fun nd => nd.s.cell)) (hB : w.heap.size ≤ B) (hlo : lo ≤ w.heap.size) :
    ∃ A k G, v = .slice A L.length k ∧ StsO wr A L.length k (L.map fun nd => nd.s.xs) G ∧ Within lo wr.heap.size G ∧ ∀ f ∈ G, ∀ x ∈ f, x < w.heap.size ∨ B ≤ x := by
  have hc2 : ChN wr a L := hch.1.keep fun f hf x hx => hb.block x (hch.1.lt_ f hf x hx)
  have hsk : ∀ s ∈ L.map (fun nd => nd.s.sk), SkO wr s := fun s hs => by
    obtain ⟨nd, hm, rfl⟩ := List.mem_map.1 hs
    exact (chN_mem hc2 hm).1.sk
  have hxs : (L.map fun nd => nd.s.sk).map (·.xs) = L.map fun nd => nd.s.xs := by rw [List.map_map]; rfl
  have hce : (L.map fun nd => nd.s.sk).map Sk.cell = L.map fun nd => nd.s.cell := by rw [List.map_map]; rfl
  have hfm : (L.map fun nd => nd.s.sk).map fpk = L.map fun nd => fpk nd.s.sk := by rw [List.map_map]; rfl
  have hwi := fpk_at hch.2.2 hch.1
  have hsz := hb.size
  obtain ⟨g, hd, hg⟩ := hs
  rw [List.length_map] at hd
  rcases hd with ⟨rfl, hn, hz, A, rfl⟩ | ⟨k, rfl, ha⟩
  · obtain rfl : L = [] := List.eq_nil_of_length_eq_zero hn
    exact ⟨A, 0, [[]], rfl, StsO.nil_ (Nat.zero_le _), within_nil, fun f hf x hx => by simp at hf; subst hf; simp at hx⟩
  · obtain ⟨cap, rfl, hr⟩ := ha.row
    have hgk := hg k (by simp)
    refine ⟨_, cap, _, rfl, ⟨k, L.map fun nd => nd.s.sk, hxs, by rw [hce]; exact hr, hsk, rfl, ?_⟩, ?_, ?_⟩
    · unfold Foot
      rw [List.pairwise_cons, hfm]
      refine ⟨fun f hf x q1 q2 => ?_, fpk_foot hch.1 hch.2.1⟩
      have h1 := (mem_fp.1 q1).2
      have h2 := hwi f hf x q2
      omega
    · intro f hf x hx
      rcases List.mem_cons.1 hf with rfl | hf
      · have h1 := (mem_fp.1 hx).2
        omega
      · rw [hfm] at hf
        have := hwi f hf x hx
        omega
    · intro f hf x hx
      rcases List.mem_cons.1 hf with rfl | hf
      · have h1 := (mem_fp.1 hx).2
        omega
      · rw [hfm] at hf
        exact .inl (hwi f hf x hx).2
set_option maxRecDepth 20000 in
set_option maxHeartbeats 1000000 in
theorem cache (a : Option Addr) (L : List Nd) (lo : Nat) (w : World) (hch : ChG lo w.heap.size w a L) (hl : L.length ≤ 1000) (hlo : lo ≤ w.heap.size) : Calls Try.prog 52 #[.pointer a] w (OutP lo (lastE L) (L.map fun nd => nd.s.xs) w) := by
  obtain ⟨zb0, zb1, hs2, hb2⟩ := Sp8.two_blocks w #[.int .i64 0, .slice none 0 0] #[.int .i64 0, .slice none 0 0] 26 26
  have HR0 : Hid (CaRel w ((w.alloc (.cells #[.int .i64 0, .slice none 0 0] 26)).alloc (.cells #[.int .i64 0, .slice none 0 0] 26)) [] L a (.slice none 0 0)) :=
    ⟨zb0, zb1, hch.1, hb2, none, .inl ⟨rfl, rfl, rfl, none, rfl⟩, fun k hk => by simp at hk⟩
  have HCH := Lib.hid hch
  clear zb0 zb1 hs2 hb2 hch
  go_enter Try.func52, Try.ntmps52
  go_wp2
  go_loopg [0] L.length (fun g x wr => ∃ (a' : Option Addr) (P L' : List Nd) (v : Value), L'.length = g ∧ P ++ L' = L ∧ x = .pointer a' ∧ Hid (CaRel w wr P L' a' v))
  case atStart => exact ⟨a, [], L, _, rfl, rfl, rfl, HR0.out⟩
  case round =>
    obtain ⟨a', P, L', v, hg, hP, rfl, hT⟩ := hrel
    clear HR0
    cases L' with
    | nil =>
      obtain ⟨k0, k1, hn0, hbw, hsp⟩ := hT.out
      obtain rfl : a' = none := hn0
      rw [List.append_nil] at hP
      subst hP
      obtain ⟨A, k, G, rfl, ho, hG, hne⟩ := out_sts HCH.out hbw hsp (by omega) hlo
      obtain ⟨x0, x1, xf⟩ := two_cells k0
      obtain ⟨y0, y1, yf⟩ := two_cells k1
      have hsz : ((wr.setCell ⟨w.heap.size, 0, none⟩ (.int .i64 (lastE P))).setCell ⟨w.heap.size, 1, none⟩ (.slice A P.length k)).heap.size = wr.heap.size := by simp [World.setCell]
      have HP : Hid (OutP lo (lastE P) (P.map fun nd => nd.s.xs) w (.returned (.agg #[.int .i64 (lastE P), .slice A P.length k])) ((wr.setCell ⟨w.heap.size, 0, none⟩ (.int .i64 (lastE P))).setCell ⟨w.heap.size, 1, none⟩ (.slice A P.length k))) := by
        have hne : ∀ f ∈ G, ∀ x ∈ f, x ≠ w.heap.size := fun f hf x hx => by have := hne f hf x hx; omega
        exact ⟨A, k, G, by rw [List.length_map], by
          rw [List.length_map]
          exact ho.keep (Nat.le_of_eq hsz.symm) fun f hf x hx => (Below.heap_setCell _ _ _ _ (hne f hf x hx)).trans (Below.heap_setCell _ _ _ _ (hne f hf x hx)), hG.mono (Nat.le_refl _) (Nat.le_of_eq hsz.symm),
          (hbw.setCell (p := ⟨w.heap.size, 0, none⟩) (Nat.le_refl _) _).setCell (p := ⟨w.heap.size, 1, none⟩) (Nat.le_refl _) _⟩
      clear ho hG hne k0 k1 hbw hsp hT hsz
      go_wp2
      refine bodyPost_ret (v := .agg #[.int .i64 (lastE P), .slice A P.length k]) ?_ rfl ?_
      · rw [results_cell1 rfl]
        go_simp
      · exact HP.out
    | cons nd L2 =>
      obtain ⟨k0, k1, hn0, hbw, hsp⟩ := hT.out
      obtain ⟨u, rfl, hb, hs, hn⟩ := hn0
      have HU := Lib.hid hn
      have HT2 := Lib.hid hT.out
      have hb' : NdB wr nd u := hb.same (hbw.block _ hb.lt)
      obtain ⟨c0, c1, c2, cf⟩ := nd_cells hb'
      obtain ⟨y0, y1, yf⟩ := two_cells k1
      have hw1 : w.heap.size + 1 < wr.heap.size := k1.lt
      have hnb : nd.b < w.heap.size := hb.lt
      have hPl : (P.map fun nd => nd.s.cell).length ≤ 100000 := by
        have := congrArg List.length hP
        rw [List.length_append] at this
        rw [List.length_map]
        omega
      have HSP : Hid (SpK (w.heap.size + 1 + 1) wr.heap.size wr.drew v (P.map fun nd => nd.s.cell)) := hsp
      have HCE : Hid (nd.s.cell = .slice nd.s.A nd.s.xs.length nd.s.c) := rfl
      have hal : ∀ o, Below wr.heap.size wr (wr.alloc o) := fun o => (Below.refl _ _).alloc (Nat.le_refl _) _
      have c0a : ∀ o, (wr.alloc o).cell? ⟨nd.b, 0, none⟩ = some (.int .i64 nd.ep) := fun o => ((hal o).cell (p := ⟨nd.b, 0, none⟩) (show nd.b < wr.heap.size by omega)).trans c0
      have y1a : ∀ o, (wr.alloc o).cell? ⟨w.heap.size + 1, 1, none⟩ = some v := fun o => ((hal o).cell (p := ⟨w.heap.size + 1, 1, none⟩) hw1).trans y1
      have K1 := Lib.hid k1
      have C20 := Lib.hid (nd_cells hb).2.2.1
      clear hT hn hs hb hb' k0 k1 hbw hsp hal
      go_upto_region 4 with (fail)
      go_region_law (refine step_spK HSP.out nd.s.cell rfl (by omega) (Nat.le_refl _) hPl (.tmp 16) (.tmp 21) rfl rfl (by go_simp) (by go_simp) ?_; intro v6 w6 hs6 hb6; obtain ⟨A6, m6, n6, rfl⟩ := hs6.sl
                     obtain ⟨y60, y61, y6f⟩ := two_cells (K1.out.same (hb6.block _ (by omega)))
                     have c06 := (hb6.cell (p := ⟨nd.b, 0, none⟩) (show nd.b < w.heap.size + 1 + 1 by omega)).trans c0)
      all_goals
        have HR6 := Lib.hid (ca_step HT2.out HU.out (w6 := w6) ⟨hb6.os, hb6.tape, hb6.output, hb6.size, hb6.block⟩ hs6)
        clear hs6 hb6 y60 y61 y6f c06 c0 c1 c2 cf y0 y1 yf c0a y1a HSP K1 HT2
        generalize (w6.setCell ⟨w.heap.size + 1, 0, none⟩ (.int .i64 nd.ep)).setCell ⟨w.heap.size + 1, 1, none⟩ (.slice A6 m6 n6) = w7 at *
        have c27 := (HR6.out.2.2.2.1.cell (p := ⟨nd.b, 2, none⟩) hnb).trans C20.out
        go_wp2
        go_roundg L2.length
        case rel => exact ⟨u, P ++ [nd], L2, _, rfl, by rw [List.append_assoc]; exact hP, rfl, HR6.out⟩
        case measure => simp at hg; omega

end Im8
end Go.Proofs.Ytmmnpmfkpieoiaa
