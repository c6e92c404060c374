/-
  Contracts of the functions that draw packets out of a code: a packet on its way, what peeling is tried at.
-/
import Derived.Test.YtnjcpbkpcmemeacDr5p
import Derived.Test.YtnjcpbkpcmemeacGrp
import Derived.Test.YtnjcpbkpcmemeacPo2
namespace Go.Proofs.Ytnjcpbkpcmemeac
open Go.RowKit
namespace Rd
open Il Pm Pq Hlp5

theorem make_len (x r : Int) (ps ns ls : List Int) : (makeF x ps ns r ls).hd.length ≤ 9 ∧ (makeF x ps ns r ls).bd.length ≤ 6 := by
  cases h : makeOk x ps ns r ls
  · rw [makeF_no h]
    exact ⟨Nat.zero_le _, Nat.zero_le _⟩
  · obtain ⟨_, _, h3, _, _, h6⟩ := pktOk_iff.1 (Po.make_valid h).1
    omega

/-- A packet, which is right if the secret is. -/
def GoodPost (sec : Int) (K rb N : Nat) (w : World) (e : Ending) (w' : World) : Prop :=
  ∃ (p : Pkt) (A : Option Addr) (c : Nat) (B : Option Addr) (d : Nat), e = .returned (.agg #[.int .i64 p.el, .slice A p.hd.length c, .int .i64 p.tag, .slice B p.bd.length d]) ∧ Ints w.heap.size w'.heap.size w' A p.hd.length c p.hd ∧ Ints w.heap.size w'.heap.size w' B p.bd.length d p.bd ∧ p.hd.length ≤ K ∧ p.bd.length ≤ K ∧ Reader w' rb N ∧ w.grownBy w' (some rb) ∧ (Gm.inG sec = true → pktOk p = true)
theorem good_end {sec : Int} {K rb N b n c m d l1 h1 l2 h2 : Nat} {w w' : World} {A B : Option Addr} {el tag : Int} {hd bd : List Int} (hv : Gm.inG sec = true → pktOk ⟨el, hd, tag, bd⟩ = true) (u0 u1 u2 u3 : Value) (i1 : Ints l1 h1 w' A n c hd) (i2 : Ints l2 h2 w' B m d bd) (hn : n ≤ K) (hm : m ≤ K) (e1 : w.heap.size ≤ l1) (e2 : w.heap.size ≤ l2) (f1 : h1 ≤ b ∨ b < l1) (f2 : h2 ≤ b ∨ b < l2) (hb : w.heap.size ≤ b) (hrb : rb < w.heap.size) (hr : Reader w' rb N) (hg : w.grownBy w' (some rb)) :
    GoodPost sec K rb N w (.returned (.agg #[.int .i64 el, .slice A n c, .int .i64 tag, .slice B m d])) ((((w'.setCell ⟨b, 0, none⟩ u0).setCell ⟨b, 1, none⟩ u1).setCell ⟨b, 2, none⟩ u2).setCell ⟨b, 3, none⟩ u3) := by
  have hbel := below_set4 (B := b) (Below.refl b w') (Nat.le_refl _) u0 u1 u2 u3
  have hfar : ∀ i, i ≠ b → ((((w'.setCell ⟨b, 0, none⟩ u0).setCell ⟨b, 1, none⟩ u1).setCell ⟨b, 2, none⟩ u2).setCell ⟨b, 3, none⟩ u3).heap[i]? = w'.heap[i]? := fun i hi =>
    (Below.heap_setCell _ _ _ _ hi).trans ((Below.heap_setCell _ _ _ _ hi).trans ((Below.heap_setCell _ _ _ _ hi).trans (Below.heap_setCell _ _ _ _ hi)))
  have k1 := i1.keep hbel.size (fun i q1 q2 _ => hfar i (by omega))
  have k2 := i2.keep hbel.size (fun i q1 q2 _ => hfar i (by omega))
  have g1 := k1.1
  have g2 := k2.1
  subst g1
  subst g2
  refine ⟨⟨el, hd, tag, bd⟩, A, c, B, d, rfl, (ints_top k1).mono e1 (Nat.le_refl _), (ints_top k2).mono e2 (Nat.le_refl _), hn, hm, hr.keep (fun i hi => hfar i (by omega)), ?_, hv⟩
  exact ⟨hbel.os.trans hg.os, hbel.tape.trans hg.tape, hbel.output.trans hg.output, Nat.le_trans hg.size hbel.size, fun i hi hne => (hfar i (by omega)).trans (hg.block i hi hne)⟩
/-- What was drawn makes a packet. -/
theorem draw_ok {x r : Int} {ps ns ls : List Int} {k j : Nat} (hx : Gm.inG x = true) (hp : ∀ p ∈ ps, Gm.inG p = true) (hpl : ps.length = k) (hnl : ns.length = k) (h1 : 1 ≤ k) (h3 : k ≤ 3) (hn : ∀ z ∈ ns, inName z = true) (hr : inName r = true) (hl : ∀ y ∈ ls, 0 ≤ y ∧ y ≤ 99) (hll : ls.length = j) (hj : j ≤ 4) : makeOk x ps ns r ls = true := by
  refine makeOk_iff.2 ⟨Lm.packOk_iff.2 ⟨Mm.okL_iff.2 ⟨fun y hy => by have := hl y hy; omega, by omega⟩, by omega⟩, hx, ?_, by omega, ?_, hr⟩
  · unfold pubsOk
    rw [List.all_eq_true.2 hp, Bool.true_and, hpl]
    exact decide_eq_true ⟨h1, h3⟩
  · exact hn

/-- What the first loop of l91Packet has gathered. -/
def MixRel (sec : Int) (rb N b0 : Nat) (w wr : World) (v1 v2 v3 : Value) (k : Nat) : Prop :=
  ∃ ps ss ns g1 g2 g3, ps.length = k ∧ ss.length = k ∧ ns.length = k ∧ AccB g1 wr v1 ps ∧ AccB g2 wr v2 ss ∧ AccB g3 wr v3 ns ∧ g1 ≠ g2 ∧ g1 ≠ g3 ∧ g2 ≠ g3 ∧ b0 < g1 ∧ b0 < g2 ∧ b0 < g3 ∧
    Reader wr rb N ∧ w.grownBy wr (some rb) ∧ Blk wr b0 #[.int .i64 0, .slice none 0 0, .int .i64 0, .slice none 0 0] 37 ∧ (Gm.inG sec = true → ∀ p ∈ ps, Gm.inG p = true) ∧ ∀ z ∈ ns, inName z = true
/-- .. the second one: a letter, while what the first has gathered is only read. -/
def LetRel (rb N b0 : Nat) (w wr : World) (A1 A2 A3 : Option Addr) (n c1 c2 c3 : Nat) (ps ss ns : List Int) (v : Value) (k : Nat) : Prop :=
  ∃ ls g M, ls.length = k ∧ AccB g wr v ls ∧ M ≤ g ∧ w.heap.size < M ∧ Ints (w.heap.size + 1) M wr A1 n c1 ps ∧ Ints (w.heap.size + 1) M wr A2 n c2 ss ∧ Ints (w.heap.size + 1) M wr A3 n c3 ns ∧
    Reader wr rb N ∧ w.grownBy wr (some rb) ∧ Blk wr b0 #[.int .i64 0, .slice none 0 0, .int .i64 0, .slice none 0 0] 37 ∧ b0 = w.heap.size ∧ ∀ y ∈ ls, 0 ≤ y ∧ y ≤ 99

/-- .. the third one: the packet in block bp. -/
def WayRel (sec : Int) (rb N bp : Nat) (w wr : World) (A2 : Option Addr) (n c2 : Nat) (ss : List Int) : Prop :=
  ∃ (p : Pkt) (A : Option Addr) (c : Nat) (B : Option Addr) (d : Nat), Blk wr bp #[.int .i64 p.el, .slice A p.hd.length c, .int .i64 p.tag, .slice B p.bd.length d] 37 ∧ p.hd.length ≤ 9 ∧ p.bd.length ≤ 6 ∧
    (∃ l1 h1, w.heap.size < l1 ∧ (h1 ≤ bp ∨ bp < l1) ∧ Ints l1 h1 wr A p.hd.length c p.hd) ∧ (∃ l2 h2, w.heap.size < l2 ∧ (h2 ≤ bp ∨ bp < l2) ∧ Ints l2 h2 wr B p.bd.length d p.bd) ∧
    Ints (w.heap.size + 1) bp wr A2 n c2 ss ∧ Reader wr rb N ∧ w.grownBy wr (some rb) ∧ Blk wr w.heap.size #[.int .i64 0, .slice none 0 0, .int .i64 0, .slice none 0 0] 37 ∧ (Gm.inG sec = true → pktOk p = true)

set_option maxHeartbeats 2000000 in
set_option maxRecDepth 20000 in
theorem l91PacketG (rb N : Nat) (sec : Int) (w : World) (hr : Reader w rb N) (hN : N ≤ 70000) :
    Calls Try.prog 66 #[.pointer (some ⟨rb, 0, none⟩), .int .i64 sec] w (GoodPost sec 100 rb (N + 40) w) := by
  have hrb := hr.lt
  have hz : Blk (w.alloc (.cells #[.int .i64 0, .slice none 0 0, .int .i64 0, .slice none 0 0] 37)) w.heap.size #[.int .i64 0, .slice none 0 0, .int .i64 0, .slice none 0 0] 37 := heap_alloc_new _ _
  have Z0 := Lib.hid hz
  have G0 : Hid (w.grownBy (w.alloc (.cells #[.int .i64 0, .slice none 0 0, .int .i64 0, .slice none 0 0] 37)) (some rb)) := World.grownBy_alloc _ _ _
  have R0 := Lib.hid (hr.alloc (.cells #[.int .i64 0, .slice none 0 0, .int .i64 0, .slice none 0 0] 37))
  have hsz : (w.alloc (.cells #[.int .i64 0, .slice none 0 0, .int .i64 0, .slice none 0 0] 37)).heap.size = w.heap.size + 1 := by simp
  have HSZ := Lib.hid hsz
  clear hr hz hsz
  go_enter Try.func66, Try.ntmps66
  go_wp2_with fail
  ((with_reducible refine (pick rb N _ _ R0.out (by omega) (by omega) (by omega)).mono ?_); rintro e w1 ⟨v1, rfl, hv0, hv1, r1, g1, s1⟩)
  have Z1 := Lib.hid (blk_grown Z0.out g1 (by simp; omega))
  have G1 := Lib.hid (grown_trans G0.out g1)
  have R1 := Lib.hid r1
  have hs1 := g1.size
  rw [HSZ.out] at hs1
  clear r1 g1 s1 Z0 G0 R0 HSZ
  obtain ⟨n0, rfl⟩ := Int.eq_ofNat_of_zero_le hv0
  go_wp2_with fail
  ((with_reducible refine (pick rb (N + 1) _ _ R1.out (by omega) (by omega) (by omega)).mono ?_); rintro e w2 ⟨v2, rfl, hu0, hu1, r2, g2, s2⟩)
  have Z2 := Lib.hid (blk_grown Z1.out g2 (by simp; omega))
  have G2 := Lib.hid (grown_trans G1.out g2)
  have R2 := Lib.hid r2
  have hs2 := g2.size
  clear r2 g2 s2 Z1 G1 R1
  obtain ⟨at0, rfl⟩ := Int.eq_ofNat_of_zero_le hu0
  have hat : at0 < n0 + 1 := by omega
  have ha1 := accB_new w2
  have ha2 := accB_new (w2.alloc (.cells #[] 3))
  have ha3 := accB_new ((w2.alloc (.cells #[] 3)).alloc (.cells #[] 3))
  have e1 : (w2.alloc (.cells #[] 3)).heap.size = w2.heap.size + 1 := by simp
  have e2 : ((w2.alloc (.cells #[] 3)).alloc (.cells #[] 3)).heap.size = w2.heap.size + 1 + 1 := by simp
  rw [e1] at ha2
  rw [e2] at ha3
  have HM0 : Hid (MixRel sec rb (N + 2) w.heap.size w (((w2.alloc (.cells #[] 3)).alloc (.cells #[] 3)).alloc (.cells #[] 3)) (.slice (some ⟨w2.heap.size, 0, none⟩) 0 0) (.slice (some ⟨w2.heap.size + 1, 0, none⟩) 0 0) (.slice (some ⟨w2.heap.size + 1 + 1, 0, none⟩) 0 0) 0) := by
    refine ⟨[], [], [], _, _, _, rfl, rfl, rfl, (ha1.alloc _).alloc _, ha2.alloc _, ha3, by omega, by omega, by omega, by omega, by omega, by omega, ((R2.out.alloc _).alloc _).alloc _, grown_alloc (grown_alloc (grown_alloc G2.out _) _) _, ?_, fun _ p hp => by simp at hp, fun p hp => by simp at hp⟩
    exact blk_grown (blk_grown (blk_grown Z2.out (World.grownBy_alloc _ _ none) (by simp)) (World.grownBy_alloc _ _ none) (by simp)) (World.grownBy_alloc _ _ none) (by simp)
  clear ha1 ha2 ha3 e1 e2 Z2 G2 R2
  go_wp2
  rw [show ((1 : Int) + (n0 : Int)) = ((n0 + 1 : Nat) : Int) from by omega]
  generalize hQ : n0 + 1 = q at *
  have hq1 : 1 ≤ q := by omega
  have hq3 : q ≤ 3 := by omega
  clear hQ hv0 hv1 hu0 hu1
  go_loopw [7, 8, 9, 10] (fun u1 u2 u3 i wr => ∃ k : Nat, k ≤ q ∧ i = .int .i64 k ∧ Hid (MixRel sec rb (N + 2 + 4 * k) w.heap.size w wr u1 u2 u3 k)) (fun _ _ _ i _ => q - (intOf i).toNat)
  case atStart => exact ⟨0, Nat.zero_le _, rfl, HM0.out⟩
  case round =>
    obtain ⟨k, hk, rfl, hT⟩ := hrel
    clear HM0
    obtain ⟨ps, ss, ns, g1, g2, g3, hp, hs, hn, a1, a2, a3, n12, n13, n23, b1, b2, b3, hrd, hgr, hz, hvp, hvn⟩ := hT.out
    have HVP := Lib.hid hvp
    have HVN := Lib.hid hvn
    have HPL := Lib.hid hp
    have HSL := Lib.hid hs
    have HNL := Lib.hid hn
    have HA1 := Lib.hid a1
    have HA2 := Lib.hid a2
    have HA3 := Lib.hid a3
    have HR := Lib.hid hrd
    have HG := Lib.hid hgr
    have HZ := Lib.hid hz
    have l1 := a1.lt
    have l2 := a2.lt
    have l3 := a3.lt
    clear hp hs hn hT a1 a2 a3 hrd hgr hz hvp hvn
    by_cases hlk : k < q
    · skip
      go_wp2_with fail
      ((with_reducible refine (l91Good rb _ _ HR.out (by omega)).mono ?_); rintro e w4 ⟨x, rfl, hx0, hx1, r4, g4⟩)
      have B1 := Lib.hid (HA1.out.keep g4 (by simp; omega))
      have B2 := Lib.hid (HA2.out.keep g4 (by simp; omega))
      have B3 := Lib.hid (HA3.out.keep g4 (by simp; omega))
      have BZ := Lib.hid (blk_grown HZ.out g4 (by simp; omega))
      have BG := Lib.hid (grown_trans HG.out g4)
      have BR := Lib.hid r4
      have hs4 := g4.size
      clear r4 g4 HA1 HA2 HA3 HZ HG HR
      by_cases hka : k = at0
      · subst hka
        go_wp2_with (at_builtin; refine wpList_app1B _ _ _ _ sec B2.out (by rw [HSL.out]; omega) (.tmp 39) (.tmp 41) rfl rfl rfl rfl ?_; intro g5 v5 w5 hN5 hW5 hG5)
        have C1 := Lib.hid (B1.out.keep hG5 (by simp; omega))
        have C2 := Lib.hid hN5
        have C3 := Lib.hid (B3.out.keep hG5 (by simp; omega))
        have CZ := Lib.hid (blk_grown BZ.out hG5 (by simp; omega))
        have CG := Lib.hid (grown_trans' BG.out hG5 (fun g e => by simp at e; omega))
        have CR := Lib.hid (BR.out.grown hG5 (fun g e => by simp at e; omega))
        have hs5 := hG5.size
        have l15 := C1.out.lt
        have l25 := C2.out.lt
        have l35 := C3.out.lt
        clear hN5 hG5 B1 B2 B3 BZ BG BR
        ((with_reducible refine (Grp.sPublic sec _).mono ?_); rintro e w' ⟨rfl, rfl⟩)
        go_wp2_with (at_builtin; refine wpList_app1B _ _ _ _ _ C1.out (by rw [HPL.out]; omega) (.tmp 43) (.tmp 46) rfl rfl rfl rfl ?_; intro g6 v6 w6 hN6 hW6 hG6)
        have D1 := Lib.hid hN6
        have D2 := Lib.hid (C2.out.keep hG6 (by simp; omega))
        have D3 := Lib.hid (C3.out.keep hG6 (by simp; omega))
        have DZ := Lib.hid (blk_grown CZ.out hG6 (by simp; omega))
        have DG := Lib.hid (grown_trans' CG.out hG6 (fun g e => by simp at e; omega))
        have DR := Lib.hid (CR.out.grown hG6 (fun g e => by simp at e; omega))
        have hs6 := hG6.size
        have l16 := D1.out.lt
        have l26 := D2.out.lt
        have l36 := D3.out.lt
        clear hN6 hG6 C1 C2 C3 CZ CG CR
        ((with_reducible refine (pick rb _ _ _ DR.out (by omega) (by omega) (by omega)).mono ?_); rintro e w7 ⟨z, rfl, hz0, hz1, r7, g7, s7⟩)
        have E1 := Lib.hid (D1.out.keep g7 (by simp; omega))
        have E2 := Lib.hid (D2.out.keep g7 (by simp; omega))
        have E3 := Lib.hid (D3.out.keep g7 (by simp; omega))
        have EZ := Lib.hid (blk_grown DZ.out g7 (by simp; omega))
        have EG := Lib.hid (grown_trans DG.out g7)
        have ER := Lib.hid r7
        have hs7 := g7.size
        clear r7 g7 s7 D1 D2 D3 DZ DG DR
        go_wp2_with (at_builtin; refine wpList_app1B _ _ _ _ _ E3.out (by rw [HNL.out]; omega) (.tmp 48) (.tmp 51) rfl rfl rfl rfl ?_; intro g8 v8 w8 hN8 hW8 hG8)
        have HN : Hid (MixRel sec rb (N + 2 + 4 * (k + 1)) w.heap.size w w8 v6 v5 v8 (k + 1)) :=
          ⟨ps ++ [Gm.mulG sec 5], ss ++ [sec], ns ++ [z], g6, g5, g8, by simp [HPL.out], by simp [HSL.out], by simp [HNL.out], E1.out.keep hG8 (by simp; omega), E2.out.keep hG8 (by simp; omega), hN8, by omega, by omega, by omega, by omega, by omega, by omega, (ER.out.grown hG8 (fun g e => by simp at e; omega)).mono (by omega), grown_trans' EG.out hG8 (fun g e => by simp at e; omega), blk_grown EZ.out hG8 (by simp; omega), fun h p hp => by rcases List.mem_append.1 hp with h1 | h1; exact HVP.out h p h1; (simp only [List.mem_singleton] at h1; subst h1; exact Gm.mulG_pos h (by decide)), fun y hy => by rcases List.mem_append.1 hy with h1 | h1; exact HVN.out y h1; (simp only [List.mem_singleton] at h1; subst h1; exact inName_iff.2 ⟨hz0, by omega⟩)⟩
        exact ⟨⟨k + 1, by omega, by go_num, HN.out⟩, by simp [intOf]; omega⟩
      · have hkb : ((k : Int) == (at0 : Int)) = false := by simp; omega
        clear hka
        go_wp2_with (at_builtin; refine wpList_app1B _ _ _ _ x B2.out (by rw [HSL.out]; omega) (.tmp 39) (.tmp 41) rfl rfl rfl rfl ?_; intro g5 v5 w5 hN5 hW5 hG5)
        have C1 := Lib.hid (B1.out.keep hG5 (by simp; omega))
        have C2 := Lib.hid hN5
        have C3 := Lib.hid (B3.out.keep hG5 (by simp; omega))
        have CZ := Lib.hid (blk_grown BZ.out hG5 (by simp; omega))
        have CG := Lib.hid (grown_trans' BG.out hG5 (fun g e => by simp at e; omega))
        have CR := Lib.hid (BR.out.grown hG5 (fun g e => by simp at e; omega))
        have hs5 := hG5.size
        have l15 := C1.out.lt
        have l25 := C2.out.lt
        have l35 := C3.out.lt
        clear hN5 hG5 B1 B2 B3 BZ BG BR
        ((with_reducible refine (Grp.sPublic x _).mono ?_); rintro e w' ⟨rfl, rfl⟩)
        go_wp2_with (at_builtin; refine wpList_app1B _ _ _ _ _ C1.out (by rw [HPL.out]; omega) (.tmp 43) (.tmp 46) rfl rfl rfl rfl ?_; intro g6 v6 w6 hN6 hW6 hG6)
        have D1 := Lib.hid hN6
        have D2 := Lib.hid (C2.out.keep hG6 (by simp; omega))
        have D3 := Lib.hid (C3.out.keep hG6 (by simp; omega))
        have DZ := Lib.hid (blk_grown CZ.out hG6 (by simp; omega))
        have DG := Lib.hid (grown_trans' CG.out hG6 (fun g e => by simp at e; omega))
        have DR := Lib.hid (CR.out.grown hG6 (fun g e => by simp at e; omega))
        have hs6 := hG6.size
        have l16 := D1.out.lt
        have l26 := D2.out.lt
        have l36 := D3.out.lt
        clear hN6 hG6 C1 C2 C3 CZ CG CR
        ((with_reducible refine (pick rb _ _ _ DR.out (by omega) (by omega) (by omega)).mono ?_); rintro e w7 ⟨z, rfl, hz0, hz1, r7, g7, s7⟩)
        have E1 := Lib.hid (D1.out.keep g7 (by simp; omega))
        have E2 := Lib.hid (D2.out.keep g7 (by simp; omega))
        have E3 := Lib.hid (D3.out.keep g7 (by simp; omega))
        have EZ := Lib.hid (blk_grown DZ.out g7 (by simp; omega))
        have EG := Lib.hid (grown_trans DG.out g7)
        have ER := Lib.hid r7
        have hs7 := g7.size
        clear r7 g7 s7 D1 D2 D3 DZ DG DR
        go_wp2_with (at_builtin; refine wpList_app1B _ _ _ _ _ E3.out (by rw [HNL.out]; omega) (.tmp 48) (.tmp 51) rfl rfl rfl rfl ?_; intro g8 v8 w8 hN8 hW8 hG8)
        have HN : Hid (MixRel sec rb (N + 2 + 4 * (k + 1)) w.heap.size w w8 v6 v5 v8 (k + 1)) :=
          ⟨ps ++ [Gm.mulG x 5], ss ++ [x], ns ++ [z], g6, g5, g8, by simp [HPL.out], by simp [HSL.out], by simp [HNL.out], E1.out.keep hG8 (by simp; omega), E2.out.keep hG8 (by simp; omega), hN8, by omega, by omega, by omega, by omega, by omega, by omega, (ER.out.grown hG8 (fun g e => by simp at e; omega)).mono (by omega), grown_trans' EG.out hG8 (fun g e => by simp at e; omega), blk_grown EZ.out hG8 (by simp; omega), fun h p hp => by rcases List.mem_append.1 hp with h1 | h1; exact HVP.out h p h1; (simp only [List.mem_singleton] at h1; subst h1; exact Gm.mulG_pos (Gm.inG_iff.2 ⟨hx0, hx1⟩) (by decide)), fun y hy => by rcases List.mem_append.1 hy with h1 | h1; exact HVN.out y h1; (simp only [List.mem_singleton] at h1; subst h1; exact inName_iff.2 ⟨hz0, by omega⟩)⟩
        exact ⟨⟨k + 1, by omega, by go_num, HN.out⟩, by simp [intOf]; omega⟩
    · obtain rfl : k = q := by omega
      obtain ⟨c1, rfl, o1⟩ := HA1.out.own
      obtain ⟨c2, rfl, o2⟩ := HA2.out.own
      obtain ⟨c3, rfl, o3⟩ := HA3.out.own
      rw [HPL.out] at o1 ⊢
      rw [HSL.out] at o2 ⊢
      rw [HNL.out] at o3 ⊢
      have hal : Below wr.heap.size wr (wr.alloc (.cells #[] 3)) := (Below.refl _ _).alloc (Nat.le_refl _) _
      have hL0 : Hid (LetRel rb (N + 14) w.heap.size w (wr.alloc (.cells #[] 3)) (some ⟨g1, 0, none⟩) (some ⟨g2, 0, none⟩) (some ⟨g3, 0, none⟩) k c1 c2 c3 ps ss ns (.slice (some ⟨wr.heap.size, 0, none⟩) 0 0) 0) :=
        ⟨[], wr.heap.size, wr.heap.size, rfl, accB_new wr, Nat.le_refl _, by omega, (o1.ints.mono (by omega) (by omega)).below hal (Nat.le_refl _), (o2.ints.mono (by omega) (by omega)).below hal (Nat.le_refl _), (o3.ints.mono (by omega) (by omega)).below hal (Nat.le_refl _), (HR.out.alloc _).mono (by omega), grown_alloc HG.out _, HZ.out.below hal (Nat.le_refl _), rfl, fun y hy => by simp at hy⟩
      have hqq3 : k ≤ 3 := hq3
      have HPLK := Lib.hid HPL.out
      have HNLK := Lib.hid HNL.out
      clear o1 o2 o3 hal HA1 HA2 HA3 HR HG HZ HPL HSL HNL hlk
      go_wp2
      go_loopw [12, 13] (fun u i wr => ∃ j : Nat, j ≤ 4 ∧ i = .int .i64 j ∧ Hid (LetRel rb (N + 14 + 2 * j) w.heap.size w wr (some ⟨g1, 0, none⟩) (some ⟨g2, 0, none⟩) (some ⟨g3, 0, none⟩) k c1 c2 c3 ps ss ns u j)) (fun _ i _ => 5 - (intOf i).toNat)
      case atStart => exact ⟨0, by omega, rfl, hL0.out⟩
      case round =>
        obtain ⟨j, hj, rfl, hT⟩ := hrel
        clear hL0
        obtain ⟨ls, gl, M, hl, al, hM, hM0, i1, i2, i3, hrd, hgr, hz, _, hvl⟩ := hT.out
        have HVL := Lib.hid hvl
        have HLL := Lib.hid hl
        have AL := Lib.hid al
        have I1 := Lib.hid i1
        have I2 := Lib.hid i2
        have I3 := Lib.hid i3
        have HR := Lib.hid hrd
        have HG := Lib.hid hgr
        have HZ := Lib.hid hz
        have ll := al.lt
        clear hl al i1 i2 i3 hrd hgr hz hT hvl
        go_wp2_with fail
        ((with_reducible refine (pick rb _ _ _ HR.out (by omega) (by omega) (by omega)).mono ?_); rintro e w4 ⟨v, rfl, hv0, hv1, r4, g4, s4⟩)
        replace AL := Lib.hid (AL.out.keep g4 (by simp; omega))
        replace I1 := Lib.hid (I1.out.grown g4 (by simp; omega))
        replace I2 := Lib.hid (I2.out.grown g4 (by simp; omega))
        replace I3 := Lib.hid (I3.out.grown g4 (by simp; omega))
        replace HZ := Lib.hid (blk_grown HZ.out g4 (by simp; omega))
        replace HG := Lib.hid (grown_trans HG.out g4)
        replace HR := Lib.hid r4
        have hs4 := g4.size
        clear r4 g4 s4
        by_cases hjv : (j : Int) < v
        · skip
          go_wp2_with fail
          ((with_reducible refine (pick rb _ _ _ HR.out (by omega) (by omega) (by omega)).mono ?_); rintro e w5 ⟨y, rfl, hy0, hy1, r5, g5, s5⟩)
          replace AL := Lib.hid (AL.out.keep g5 (by simp; omega))
          replace I1 := Lib.hid (I1.out.grown g5 (by simp; omega))
          replace I2 := Lib.hid (I2.out.grown g5 (by simp; omega))
          replace I3 := Lib.hid (I3.out.grown g5 (by simp; omega))
          replace HZ := Lib.hid (blk_grown HZ.out g5 (by simp; omega))
          replace HG := Lib.hid (grown_trans HG.out g5)
          replace HR := Lib.hid r5
          have hs5 := g5.size
          clear r5 g5 s5
          go_wp2_with (at_builtin; refine wpList_app1B _ _ _ _ _ AL.out (by rw [HLL.out]; omega) (.tmp 60) (.tmp 63) rfl rfl rfl rfl ?_; intro g6 v6 w6 hN6 hW6 hG6)
          have HN : Hid (LetRel rb (N + 14 + 2 * (j + 1)) w.heap.size w w6 (some ⟨g1, 0, none⟩) (some ⟨g2, 0, none⟩) (some ⟨g3, 0, none⟩) k c1 c2 c3 ps ss ns v6 (j + 1)) :=
            ⟨ls ++ [y], g6, M, by simp [HLL.out], hN6, by omega, hM0, I1.out.grown hG6 (by simp; omega), I2.out.grown hG6 (by simp; omega), I3.out.grown hG6 (by simp; omega), (HR.out.grown hG6 (fun g e => by simp at e; omega)).mono (by omega), grown_trans' HG.out hG6 (fun g e => by simp at e; omega), blk_grown HZ.out hG6 (by simp; omega), rfl, fun z hz => by rcases List.mem_append.1 hz with h1 | h1; exact HVL.out z h1; (simp only [List.mem_singleton] at h1; subst h1; omega)⟩
          exact ⟨⟨j + 1, by omega, by go_num, HN.out⟩, by simp [intOf]; omega⟩
        · obtain ⟨c4, rfl, o4⟩ := AL.out.own
          rw [HLL.out] at o4 ⊢
          have O4 := Lib.hid o4.ints
          clear o4 AL
          have hjv2 : decide ((j : Int) < v) = false := decide_eq_false hjv
          clear hjv
          go_wp2_with fail
          ((with_reducible refine (l91Good rb _ _ HR.out (by omega)).mono ?_); rintro e w5 ⟨x0, rfl, hx0, hx1, r5, g5⟩)
          replace O4 := Lib.hid (O4.out.grown g5 (by simp; omega))
          replace I1 := Lib.hid (I1.out.grown g5 (by simp; omega))
          replace I2 := Lib.hid (I2.out.grown g5 (by simp; omega))
          replace I3 := Lib.hid (I3.out.grown g5 (by simp; omega))
          replace HZ := Lib.hid (blk_grown HZ.out g5 (by simp; omega))
          replace HG := Lib.hid (grown_trans HG.out g5)
          replace HR := Lib.hid r5
          have hs5 := g5.size
          clear r5 g5
          go_wp2_with fail
          ((with_reducible refine (pick rb _ _ _ HR.out (by omega) (by omega) (by omega)).mono ?_); rintro e w6 ⟨rc, rfl, hc0, hc1, r6, g6, s6⟩)
          replace O4 := Lib.hid (O4.out.grown g6 (by simp; omega))
          replace I1 := Lib.hid (I1.out.grown g6 (by simp; omega))
          replace I2 := Lib.hid (I2.out.grown g6 (by simp; omega))
          replace I3 := Lib.hid (I3.out.grown g6 (by simp; omega))
          replace HZ := Lib.hid (blk_grown HZ.out g6 (by simp; omega))
          replace HG := Lib.hid (grown_trans HG.out g6)
          replace HR := Lib.hid r6
          have hs6 := g6.size
          clear r6 g6 s6
          have hML : M ≤ w6.heap.size := by omega
          go_wp2_with fail
          ((with_reducible refine (Sp5.PacketMake _ _ _ _ _ _ _ _ _ _ _ _ _ _ _ ps ns ls x0 rc w6 I1.out I3.out O4.out).mono ?_); rintro e w7 ⟨A7, c7, B7, d7, b1, b2, rfl, hlie, hb1, hb2, hb7⟩)
          obtain ⟨hl1, hl2⟩ := make_len x0 rc ps ns ls
          have hvm : Gm.inG sec = true → pktOk (makeF x0 ps ns rc ls) = true := fun h => (Po.make_valid (draw_ok (Gm.inG_iff.2 ⟨hx0, hx1⟩) (HVP.out h) HPLK.out HNLK.out hq1 hqq3 HVN.out (inName_iff.2 ⟨hc0, by omega⟩) HVL.out HLL.out hj)).1
          generalize makeF x0 ps ns rc ls = p at *
          have hs7 := hb7.size
          have hal : Below w7.heap.size w7 (w7.alloc (.cells #[.int .i64 p.el, .slice A7 p.hd.length c7, .int .i64 p.tag, .slice B7 p.bd.length d7] 37)) := (Below.refl _ _).alloc (Nat.le_refl _) _
          have hb8 := hb7.trans (hal.mono hs7)
          have hgr8 : w6.grownBy (w7.alloc (.cells #[.int .i64 p.el, .slice A7 p.hd.length c7, .int .i64 p.tag, .slice B7 p.bd.length d7] 37)) (some rb) := grown_of_below hb8
          have HW : Hid (WayRel sec rb (N + 30) w7.heap.size w (w7.alloc (.cells #[.int .i64 p.el, .slice A7 p.hd.length c7, .int .i64 p.tag, .slice B7 p.bd.length d7] 37)) (some ⟨g2, 0, none⟩) k c2 ss) := by
            refine ⟨p, A7, c7, B7, d7, heap_alloc_new _ _, hl1, hl2, ?_, ?_, ?_, ?_, ?_, ?_, hvm⟩
            · exact ⟨w6.heap.size, w7.heap.size, by omega, .inl (Nat.le_refl _), ((ints_top hlie.hdr.ints).mono hb1 (Nat.le_refl _)).below hal (Nat.le_refl _)⟩
            · exact ⟨w6.heap.size, w7.heap.size, by omega, .inl (Nat.le_refl _), ((ints_top hlie.bdy.ints).mono hb2 (Nat.le_refl _)).below hal (Nat.le_refl _)⟩
            · exact (I2.out.below hb8 (Nat.le_refl _)).mono (Nat.le_refl _) (by omega)
            · exact (HR.out.below hb8 (by omega)).mono (by omega)
            · exact grown_trans HG.out hgr8
            · exact HZ.out.below hb8 (Nat.le_refl _)
          clear hal hb8 hgr8 hb7 hlie I1 I2 I3 O4 HR HG HZ
          go_wp2
          generalize hbp : w7.heap.size = bp at *
          have hbp1 : w.heap.size < bp := by omega
          go_loopw [16] (fun i wr => ∃ i0 : Nat, i0 ≤ at0 ∧ i = .int .i64 i0 ∧ Hid (WayRel sec rb (N + 30) bp w wr (some ⟨g2, 0, none⟩) k c2 ss)) (fun i _ => at0 - (intOf i).toNat)
          case atStart => exact ⟨0, Nat.zero_le _, rfl, HW.out⟩
          case round =>
            obtain ⟨i0, hi0, rfl, hT⟩ := hrel
            clear HW
            obtain ⟨p, A, c, B, d, hb, h9, h6, ⟨l1, h1, f1, f1', i1⟩, ⟨l2, h2, f2, f2', i2⟩, i3, hrd, hgr, hz, hvw⟩ := hT.out
            have HVW := Lib.hid hvw
            have HBP := Lib.hid hb
            have J1 := Lib.hid i1
            have J2 := Lib.hid i2
            have I1 := Lib.hid (ints_top i1)
            have I2 := Lib.hid (ints_top i2)
            have I3 := Lib.hid i3
            have HR := Lib.hid hrd
            have HG := Lib.hid hgr
            have HZ := Lib.hid hz
            have hbp2 := blk_lt hb
            clear hT hb i1 i2 i3 hrd hgr hz hvw
            obtain ⟨el, hd, tag, bd⟩ := p
            dsimp only at *
            obtain ⟨p0, p1, p2, p3, pf⟩ := four_cells HBP.out
            by_cases hlt : i0 < at0
            · have hik : i0 < k := by omega
              obtain ⟨bb, ff, ee, _, hbb, cx⟩ := I3.out.at_ hik
              simp only [Option.some.injEq, Addr.mk.injEq, and_true] at ee
              obtain ⟨rfl, rfl⟩ := ee
              rw [Nat.zero_add] at cx
              have hikI : (i0 : Int) < (k : Int) := by omega
              generalize ss.getD i0 0 = x at cx
              have hal : Below wr.heap.size wr (wr.alloc (.cells #[.int .i64 0, .int .i64 0, .int .i64 0, .slice none 0 0, .int .i64 0, .slice none 0 0] 39)) := (Below.refl _ _).alloc (Nat.le_refl _) _
              have pa0 := (hal.cell (p := ⟨bp, 0, none⟩) hbp2).trans p0
              have pa1 := (hal.cell (p := ⟨bp, 1, none⟩) hbp2).trans p1
              have pa2 := (hal.cell (p := ⟨bp, 2, none⟩) hbp2).trans p2
              have pa3 := (hal.cell (p := ⟨bp, 3, none⟩) hbp2).trans p3
              have ca := (hal.cell (p := ⟨g2, i0, none⟩) (show g2 < wr.heap.size by omega)).trans cx
              have I1A : Hid (Ints l1 wr.heap.size (wr.alloc (.cells #[.int .i64 0, .int .i64 0, .int .i64 0, .slice none 0 0, .int .i64 0, .slice none 0 0] 39)).drew A hd.length c hd) := (show Ints l1 wr.heap.size (wr.alloc (.cells #[.int .i64 0, .int .i64 0, .int .i64 0, .slice none 0 0, .int .i64 0, .slice none 0 0] 39)) A hd.length c hd from I1.out.below hal (Nat.le_refl _))
              have I2A : Hid (Ints l2 wr.heap.size (wr.alloc (.cells #[.int .i64 0, .int .i64 0, .int .i64 0, .slice none 0 0, .int .i64 0, .slice none 0 0] 39)).drew B bd.length d bd) := (show Ints l2 wr.heap.size (wr.alloc (.cells #[.int .i64 0, .int .i64 0, .int .i64 0, .slice none 0 0, .int .i64 0, .slice none 0 0] 39)) B bd.length d bd from I2.out.below hal (Nat.le_refl _))
              have I1D : Hid (Ints l1 wr.heap.size wr.drew A hd.length c hd) := I1.out
              have I2D : Hid (Ints l2 wr.heap.size wr.drew B bd.length d bd) := I2.out
              have hzA : (wr.alloc (.cells #[.int .i64 0, .int .i64 0, .int .i64 0, .slice none 0 0, .int .i64 0, .slice none 0 0] 39)).drew.heap[wr.heap.size]? = some (.cells #[.int .i64 0, .int .i64 0, .int .i64 0, .slice none 0 0, .int .i64 0, .slice none 0 0] 39 (0, 0)) := heap_alloc_new _ _
              have HZA := Lib.hid hzA
              have HAL := Lib.hid hal
              clear hzA hal
              go_wp2_with fail
              go_region_law ((go_simp; go_at_call 93; first | (refine (Sp5.PacketPeel _ _ _ _ _ _ _ _ _ _ x el tag hd bd _ I1A.out I2A.out).mono ?_; rintro e w5 ⟨A5, c5, B5, d5, b1, b2, rfl, hlie, hb1, hb2, hb5⟩; have hza := (hb5.block wr.heap.size (by simp)).trans HZA.out; obtain ⟨y0, y1, y2, y3, y4, y5, yf⟩ := six_cells hza; have hb05 : Below wr.heap.size wr w5 := HAL.out.trans (below_drew (hb5.mono (by simp)))) | (refine (Sp5.PacketPeel _ _ _ _ _ _ _ _ _ _ x el tag hd bd _ I1D.out I2D.out).mono ?_; rintro e w5 ⟨A5, c5, B5, d5, b1, b2, rfl, hlie, hb1, hb2, hb5⟩; have hb05 : Below wr.heap.size wr w5 := below_drew hb5)))
              all_goals
                have hpl := peel_len (x := x) (p := ⟨el, hd, tag, bd⟩)
                have hpv : peelOk x ⟨el, hd, tag, bd⟩ = true → pktOk (peelF x ⟨el, hd, tag, bd⟩).pk = true := fun h => (Po.peel_valid h).1
                have HPV := Lib.hid hpv
                clear hpv
                have hb66 := h6
                clear h6
                generalize peelF x ⟨el, hd, tag, bd⟩ = pl at *
                generalize peelOk x ⟨el, hd, tag, bd⟩ = po at *
                obtain ⟨hq1, hq2⟩ := hpl
                first
                | (have hz' := hza
                   clear hz'
                   obtain ⟨h6, hbl⟩ := set6 (v0 := .int .i64 pl.kind) (v1 := .int .i64 pl.next) (v2 := .int .i64 pl.pk.el) (v3 := .slice A5 pl.pk.hd.length c5) (v4 := .int .i64 pl.pk.tag) (v5 := .slice B5 pl.pk.bd.length d5) hza
                   have hb6 := hbl wr.heap.size (Nat.le_refl _)
                   have hb06 := hb05.trans hb6
                   have hbb1 : wr.heap.size + 1 ≤ b1 := by simpa using hb1
                   have hbb2 : wr.heap.size + 1 ≤ b2 := by simpa using hb2
                   have HL6 := lies_far hlie hb6.size (set6_far w5 wr.heap.size (.int .i64 pl.kind) (.int .i64 pl.next) (.int .i64 pl.pk.el) (.slice A5 pl.pk.hd.length c5) (.int .i64 pl.pk.tag) (.slice B5 pl.pk.bd.length d5)) (by omega) (by omega)
                   clear y0 y1 y2 y3 y4 y5 yf hza hbl hb05 hb5 hb6 hlie hb1 hb2
                   generalize ((((((w5.setCell ⟨wr.heap.size, 0, none⟩ (.int .i64 pl.kind)).setCell ⟨wr.heap.size, 1, none⟩ (.int .i64 pl.next)).setCell ⟨wr.heap.size, 2, none⟩ (.int .i64 pl.pk.el)).setCell ⟨wr.heap.size, 3, none⟩ (.slice A5 pl.pk.hd.length c5)).setCell ⟨wr.heap.size, 4, none⟩ (.int .i64 pl.pk.tag)).setCell ⟨wr.heap.size, 5, none⟩ (.slice B5 pl.pk.bd.length d5)) = w6 at h6 hb06 HL6 ⊢
                   have hs6 := hb06.size
                   have x0 := HBP.out.below hb06 (Nat.le_refl _)
                   have z6 := HZ.out.below hb06 (Nat.le_refl _)
                   obtain ⟨r0, r1, r2, r3, rf⟩ := four_cells x0
                   obtain ⟨s0, s1, s2, s3, s4, s5, sf⟩ := six_cells h6
                   have hgr6 := grown_trans HG.out (grown_of_below (row := some rb) hb06)
                   have hr6 := HR.out.below hb06 (by omega)
                   cases po
                   · have HN : Hid (WayRel sec rb (N + 30) bp w w6 (some ⟨g2, 0, none⟩) k c2 ss) :=
                       ⟨⟨el, hd, tag, bd⟩, A, c, B, d, x0, h9, hb66, ⟨l1, h1, f1, f1', J1.out.below hb06 (Nat.le_refl _)⟩, ⟨l2, h2, f2, f2', J2.out.below hb06 (Nat.le_refl _)⟩, I3.out.below hb06 (Nat.le_refl _), hr6, hgr6, z6, HVW.out⟩
                     clear hgr6 hr6 x0 z6 HL6 hb06 r0 r1 r2 r3 rf s0 s1 s2 s3 s4 s5 sf h6 p0 p1 p2 p3 pf pa0 pa1 pa2 pa3 ca cx
                     go_wp2
                     go_roundw
                     case rel => exact ⟨i0 + 1, by omega, by go_num, HN.out⟩
                     case measure => simp [intOf]; omega
                   · obtain ⟨x7, _, hbl7⟩ := set4 (v0 := .int .i64 pl.pk.el) (v1 := .slice A5 pl.pk.hd.length c5) (v2 := .int .i64 pl.pk.tag) (v3 := .slice B5 pl.pk.bd.length d5) x0
                     have hf7 := set4_far w6 bp (.int .i64 pl.pk.el) (.slice A5 pl.pk.hd.length c5) (.int .i64 pl.pk.tag) (.slice B5 pl.pk.bd.length d5)
                     have hb7 := hbl7 bp (Nat.le_refl _)
                     have hL7 := lies_far HL6 hb7.size hf7 (by omega) (by omega)
                     have HN : Hid (WayRel sec rb (N + 30) bp w ((((w6.setCell ⟨bp, 0, none⟩ (.int .i64 pl.pk.el)).setCell ⟨bp, 1, none⟩ (.slice A5 pl.pk.hd.length c5)).setCell ⟨bp, 2, none⟩ (.int .i64 pl.pk.tag)).setCell ⟨bp, 3, none⟩ (.slice B5 pl.pk.bd.length d5)) (some ⟨g2, 0, none⟩) k c2 ss) :=
                       ⟨pl.pk, A5, c5, B5, d5, x7, hq1, hq2, ⟨b1, b1 + 1, by omega, by omega, hL7.hdr.ints⟩, ⟨b2, b2 + 1, by omega, by omega, hL7.bdy.ints⟩, (I3.out.below hb06 (Nat.le_refl _)).keep hb7.size (fun i q1 q2 _ => hf7 i (by omega)), hr6.keep (fun i hi => hf7 i (by omega)),
                         ⟨hb7.os.trans hgr6.os, hb7.tape.trans hgr6.tape, hb7.output.trans hgr6.output, Nat.le_trans hgr6.size hb7.size, fun i hi hne => (hf7 i (by omega)).trans (hgr6.block i hi hne)⟩, (hf7 w.heap.size (by omega)).trans z6, fun _ => HPV.out rfl⟩
                     clear hgr6 hr6 x0 z6 HL6 hb06 h6 p0 p1 p2 p3 pf pa0 pa1 pa2 pa3 ca cx x7 hbl7 hf7 hb7 hL7
                     go_wp2
                     go_roundw
                     case rel => exact ⟨i0 + 1, by omega, by go_num, HN.out⟩
                     case measure => simp [intOf]; omega)
                | (skip
                   have h6 : (w5.alloc (.cells #[.int .i64 pl.kind, .int .i64 pl.next, .int .i64 pl.pk.el, .slice A5 pl.pk.hd.length c5, .int .i64 pl.pk.tag, .slice B5 pl.pk.bd.length d5] 39)).heap[w5.heap.size]? = some (.cells #[.int .i64 pl.kind, .int .i64 pl.next, .int .i64 pl.pk.el, .slice A5 pl.pk.hd.length c5, .int .i64 pl.pk.tag, .slice B5 pl.pk.bd.length d5] 39 (0, 0)) := heap_alloc_new _ _
                   have hal6 : Below w5.heap.size w5 (w5.alloc (.cells #[.int .i64 pl.kind, .int .i64 pl.next, .int .i64 pl.pk.el, .slice A5 pl.pk.hd.length c5, .int .i64 pl.pk.tag, .slice B5 pl.pk.bd.length d5] 39)) := (Below.refl _ _).alloc (Nat.le_refl _) _
                   have hb06 := hb05.trans (hal6.mono hb05.size)
                   have HL6 := hlie.below hal6 (Nat.le_refl _)
                   have hbb1 : wr.heap.size ≤ b1 := hb1
                   have hbb2 : wr.heap.size ≤ b2 := hb2
                   have hs05 := hb05.size
                   clear hal6 hb05 hb5 hlie hb1 hb2
                   generalize (w5.alloc (.cells #[.int .i64 pl.kind, .int .i64 pl.next, .int .i64 pl.pk.el, .slice A5 pl.pk.hd.length c5, .int .i64 pl.pk.tag, .slice B5 pl.pk.bd.length d5] 39)) = w6 at h6 hb06 HL6 ⊢
                   have hs6 := hb06.size
                   have x0 := HBP.out.below hb06 (Nat.le_refl _)
                   have z6 := HZ.out.below hb06 (Nat.le_refl _)
                   obtain ⟨r0, r1, r2, r3, rf⟩ := four_cells x0
                   obtain ⟨s0, s1, s2, s3, s4, s5, sf⟩ := six_cells h6
                   have hgr6 := grown_trans HG.out (grown_of_below (row := some rb) hb06)
                   have hr6 := HR.out.below hb06 (by omega)
                   cases po
                   · have HN : Hid (WayRel sec rb (N + 30) bp w w6 (some ⟨g2, 0, none⟩) k c2 ss) :=
                       ⟨⟨el, hd, tag, bd⟩, A, c, B, d, x0, h9, hb66, ⟨l1, h1, f1, f1', J1.out.below hb06 (Nat.le_refl _)⟩, ⟨l2, h2, f2, f2', J2.out.below hb06 (Nat.le_refl _)⟩, I3.out.below hb06 (Nat.le_refl _), hr6, hgr6, z6, HVW.out⟩
                     clear hgr6 hr6 x0 z6 HL6 hb06 r0 r1 r2 r3 rf s0 s1 s2 s3 s4 s5 sf h6 p0 p1 p2 p3 pf pa0 pa1 pa2 pa3 ca cx
                     go_wp2
                     go_roundw
                     case rel => exact ⟨i0 + 1, by omega, by go_num, HN.out⟩
                     case measure => simp [intOf]; omega
                   · obtain ⟨x7, _, hbl7⟩ := set4 (v0 := .int .i64 pl.pk.el) (v1 := .slice A5 pl.pk.hd.length c5) (v2 := .int .i64 pl.pk.tag) (v3 := .slice B5 pl.pk.bd.length d5) x0
                     have hf7 := set4_far w6 bp (.int .i64 pl.pk.el) (.slice A5 pl.pk.hd.length c5) (.int .i64 pl.pk.tag) (.slice B5 pl.pk.bd.length d5)
                     have hb7 := hbl7 bp (Nat.le_refl _)
                     have hL7 := lies_far HL6 hb7.size hf7 (by omega) (by omega)
                     have HN : Hid (WayRel sec rb (N + 30) bp w ((((w6.setCell ⟨bp, 0, none⟩ (.int .i64 pl.pk.el)).setCell ⟨bp, 1, none⟩ (.slice A5 pl.pk.hd.length c5)).setCell ⟨bp, 2, none⟩ (.int .i64 pl.pk.tag)).setCell ⟨bp, 3, none⟩ (.slice B5 pl.pk.bd.length d5)) (some ⟨g2, 0, none⟩) k c2 ss) :=
                       ⟨pl.pk, A5, c5, B5, d5, x7, hq1, hq2, ⟨b1, b1 + 1, by omega, by omega, hL7.hdr.ints⟩, ⟨b2, b2 + 1, by omega, by omega, hL7.bdy.ints⟩, (I3.out.below hb06 (Nat.le_refl _)).keep hb7.size (fun i q1 q2 _ => hf7 i (by omega)), hr6.keep (fun i hi => hf7 i (by omega)),
                         ⟨hb7.os.trans hgr6.os, hb7.tape.trans hgr6.tape, hb7.output.trans hgr6.output, Nat.le_trans hgr6.size hb7.size, fun i hi hne => (hf7 i (by omega)).trans (hgr6.block i hi hne)⟩, (hf7 w.heap.size (by omega)).trans z6, fun _ => HPV.out rfl⟩
                     clear hgr6 hr6 x0 z6 HL6 hb06 h6 p0 p1 p2 p3 pf pa0 pa1 pa2 pa3 ca cx x7 hbl7 hf7 hb7 hL7
                     go_wp2
                     go_roundw
                     case rel => exact ⟨i0 + 1, by omega, by go_num, HN.out⟩
                     case measure => simp [intOf]; omega)
            · obtain ⟨z0, z1, z2, z3, zf⟩ := four_cells HZ.out
              go_wp2
              refine bodyPost_ret (v := .agg #[.int .i64 el, .slice A hd.length c, .int .i64 tag, .slice B bd.length d]) ?_ rfl ?_
              · rw [results_cell1 rfl]
                go_simp
              · exact good_end (K := 100) (N := N + 40) HVW.out _ _ _ _ J1.out J2.out (by omega) (by omega) (by omega) (by omega) (by omega) (by omega) (Nat.le_refl _) hrb (HR.out.mono (by omega)) HG.out

end Rd
end Go.Proofs.Ytnjcpbkpcmemeac
