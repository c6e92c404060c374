/-
  The exact laws of chapter 22, by the contracts of the functions that they call: each returns true and writes nothing that was there.
-/
import Derived.Test.YtljfhddgifacnaaSp10b
import Derived.Test.YtljfhddgifacnaaIm10b
import Derived.Test.YtljfhddgifacnaaH10
import Derived.Deep.RegionHeld3
import Derived.Deep.QuietTactic
import Derived.Deep.Cut
import Derived.BigQuiet
namespace Go.Proofs.Ytljfhddgifacnaa
open Go.RowKit
namespace Law10x
open Gm Mm Tm Lm Pm Po Pq Il Hlp5 LawB Rm Cl Rp

theorem bdr {B : Nat} {w w' : World} (h : Below B w w') : Below B w w'.drew := ⟨h.os, h.tape, h.output, h.size, h.block⟩
theorem own_kept2 {N M b b1 b2 : Nat} {w w' : World} {A : Option Addr} {n c : Nat} {xs : List Int} (h : Il.Own b (b + 1) w A n c xs) (hk : Kept2 N M b1 b2 w w') (l : 0 < n → (0 < N → b ≠ b1) ∧ (0 < M → b ≠ b2)) : Il.Own b (b + 1) w' A n c xs := by
  rcases Nat.eq_zero_or_pos n with rfl | hn
  · exact ⟨⟨h.1.1, h.1.2.1, h.1.2.2.1, fun h => absurd h (by omega)⟩, fun _ _ h => absurd h (by omega)⟩
  · exact h.keep hk.size fun x q1 q2 q3 => hk.block x q3 (fun e => by have := (l hn).1 e; omega) (fun e => by have := (l hn).2 e; omega)
theorem no0 {P : Prop} (h : 0 < 0) : P := absurd h (Nat.lt_irrefl 0)
theorem markB {f el tag : Int} {A : Option Addr} {n c b : Nat} {xs : List Int} {k0 : Int} {w : World} (ho : Il.Own b (b + 1) w A n c xs) (hn : n ≤ 2000000) (h0 : 0 ≤ k0) (h1 : k0 ≤ 4000000) :
    Calls Try.prog 41 #[.agg #[.int .i64 f, .int .i64 el, .slice A n c, .int .i64 tag], .int .i64 k0] w fun e w' => e = .returned (.int .i64 (k0 + n)) ∧ Il.Own b (b + 1) w' A n c (marks k0 n) ∧ Kept2 n 0 b b w w' := by
  obtain ⟨lo, hi, o', e, f'⟩ := own_rng ho
  refine (H10.markBlock f el tag A n c lo hi xs k0 w o' (by omega) h0 (by omega)).mono ?_
  rintro e2 w' ⟨he, hm, q1, q2, q3, q4, q5⟩
  refine ⟨he, own_back hm (fun h => ⟨(f' h).1, (f' h).2.1⟩), ⟨q1, q2, q3, q4, fun x hx n1 _ => q5 x hx ?_⟩⟩
  rcases Nat.eq_zero_or_pos n with q | q
  · have := e q; omega
  · have := f' q; have := n1 q; omega
theorem markI2 {A : Option Addr} {n c b : Nat} {xs : List Int} {k0 : Int} {w : World} (ho : Il.Own b (b + 1) w A n c xs) (hn : n ≤ 2000000) (h0 : 0 ≤ k0) (h1 : k0 ≤ 4000000) :
    Calls Try.prog 40 #[.slice A n c, .int .i64 k0] w fun e w' => e = .returned (.int .i64 (k0 + n)) ∧ Il.Own b (b + 1) w' A n c (marks k0 n) ∧ Kept2 n 0 b b w w' := by
  obtain ⟨lo, hi, o', e, f'⟩ := own_rng ho
  refine (Hlp.markIntS lo hi A n c xs k0 w o' (by omega) h0 (by omega)).mono ?_
  rintro e2 w' ⟨he, hm, hk⟩
  refine ⟨he, own_back hm (fun h => ⟨(f' h).1, (f' h).2.1⟩), ⟨hk.os, hk.tape, hk.output, Nat.le_of_eq hk.size.symm, fun x hx n1 _ => hk.block x ?_⟩⟩
  rcases Nat.eq_zero_or_pos n with q | q
  · have := e q; omega
  · have := f' q; have := n1 q; omega
theorem rep_lens (x r : Int) (ps ns : List Int) : (repF x ps ns r).hd.length ≤ 9 ∧ (repF x ps ns r).bd.length ≤ 3 := by
  cases h : makeOk x ps ns r []
  · rw [repF_no h]
    exact ⟨Nat.zero_le _, Nat.zero_le _⟩
  · obtain ⟨_, _, q3, _⟩ := makeOk_iff.1 h
    rw [repF_yes h]
    have h9 := (pktOk_iff.1 (make_valid h).1).2.2.1
    have h3 := (pubs_all q3).2.2
    refine ⟨Nat.le_of_eq h9, ?_⟩
    show (keysF x ps).length ≤ 3
    rw [keysF_len]; exact h3
theorem fill_lens {f el tag : Int} {hd ls : List Int} : (fillR f el hd tag ls).hd.length ≤ 9 ∧ (fillR f el hd tag ls).bd.length ≤ 6 := by
  cases h : fillOk f el hd tag ls
  · rw [fillR_no h]
    exact ⟨Nat.zero_le _, Nat.zero_le _⟩
  · obtain ⟨_, _, q3⟩ := fillOk_iff.1 h
    obtain ⟨_, _, u3, _, _, u6⟩ := pktOk_iff.1 q3
    rw [fillR_yes h]
    exact ⟨Nat.le_of_eq u3, Nat.le_of_eq u6⟩

theorem own_keepC {b : Nat} {w w' : World} {A : Option Addr} {n c : Nat} {xs : List Int} (h : Il.Own b (b + 1) w A n c xs) (hs : w.heap.size ≤ w'.heap.size) (hk : 0 < n → w'.heap[b]? = w.heap[b]?) : Il.Own b (b + 1) w' A n c xs := by
  rcases Nat.eq_zero_or_pos n with rfl | hn
  · exact ⟨⟨h.1.1, h.1.2.1, h.1.2.2.1, fun h => absurd h (by omega)⟩, fun _ _ h => absurd h (by omega)⟩
  · exact h.keep hs fun x q1 q2 q3 => by
      obtain rfl : x = b := by omega
      exact hk hn
theorem lies_keepC {b1 b2 : Nat} {w w' : World} {A B : Option Addr} {c d : Nat} {p : Pkt} (h : Lies w b1 b2 A c B d p) (hs : w.heap.size ≤ w'.heap.size) (h1 : 0 < p.hd.length → w'.heap[b1]? = w.heap[b1]?) (h2 : 0 < p.bd.length → w'.heap[b2]? = w.heap[b2]?) : Lies w' b1 b2 A c B d p :=
  ⟨own_keepC h.1 hs h1, own_keepC h.2.1 hs h2, h.2.2⟩

set_option maxRecDepth 20000 in
set_option maxHeartbeats 1000000 in
theorem fnExactReplyOpen (A : Option Addr) (n c : Nat) (ks : List Int) (A2 : Option Addr) (n2 c2 : Nat) (bs : List Int) (w : World) (hx : Ints 0 w.heap.size w A n c ks) (hx2 : Ints 0 w.heap.size w A2 n2 c2 bs) :
    Calls Try.prog 12 #[.slice A n c, .slice A2 n2 c2] w (TruePost w) := by
  have l1 := hx.len_
  have l2 := hx2.len_
  have IA := Lib.hid hx
  have IB := Lib.hid hx2
  clear hx hx2
  by_cases q1 : 1048576 < n
  · go_enter Try.func12, Try.ntmps12
    go_wp2
    go_ret
    exact ⟨rfl, Below.refl _ _⟩
  by_cases q2 : 1048576 < n2
  · go_enter Try.func12, Try.ntmps12
    go_wp2
    go_ret
    exact ⟨rfl, Below.refl _ _⟩
  have r1 : ks.length ≤ 1048576 := by omega
  have r2 : bs.length ≤ 1048576 := by omega
  clear l1 l2
  have B : Hid (Below w.heap.size w w) := Below.refl _ _
  go_enter Try.func12, Try.ntmps12
  have hle := opnF_le ks bs
  go_wp2_with fail
  ((with_reducible refine (Hlp.toIntS _ _ _ _ _ ks _ IA.out (by omega)).mono ?_); rintro e w1 ⟨ATa, cTa, rfl, ho, hb⟩)
  replace IA := Lib.hid (IA.out.below hb (Nat.le_refl _))
  replace IB := Lib.hid (IB.out.below hb (Nat.le_refl _))
  replace B := Lib.hid (B.out.trans (hb.mono B.out.size))
  have z1 := hb.size
  have OTa := Lib.hid ho
  clear ho hb
  go_wp2_with fail
  ((with_reducible refine (Hlp.toIntS _ _ _ _ _ bs _ IB.out (by omega)).mono ?_); rintro e w2 ⟨ATb, cTb, rfl, ho, hb⟩)
  replace IA := Lib.hid (IA.out.below hb (Nat.le_refl _))
  replace IB := Lib.hid (IB.out.below hb (Nat.le_refl _))
  replace OTa := Lib.hid (OTa.out.below hb (Nat.le_refl _))
  replace B := Lib.hid (B.out.trans (hb.mono B.out.size))
  have z2 := hb.size
  have OTb := Lib.hid ho
  clear ho hb
  go_wp2_with fail
  ((with_reducible refine (Sp10.ReplyOpen ks bs _ _ _ _ _ _ _ _ _ _ _ OTa.out.ints OTb.out.ints).mono ?_); rintro e w3 ⟨AS, cS, rfl, ho, hb⟩)
  replace IA := Lib.hid (IA.out.below hb (Nat.le_refl _))
  replace IB := Lib.hid (IB.out.below hb (Nat.le_refl _))
  replace OTa := Lib.hid (OTa.out.below hb (Nat.le_refl _))
  replace OTb := Lib.hid (OTb.out.below hb (Nat.le_refl _))
  replace B := Lib.hid (B.out.trans (hb.mono B.out.size))
  have z3 := hb.size
  have OS := Lib.hid ho
  clear ho hb
  clear OTa OTb
  go_wp2_with fail
  ((with_reducible refine (Hlp.toIntS _ _ _ _ _ ks _ IA.out (by omega)).mono ?_); rintro e w4 ⟨AXa, cXa, rfl, ho, hb⟩)
  replace IA := Lib.hid (IA.out.below hb (Nat.le_refl _))
  replace IB := Lib.hid (IB.out.below hb (Nat.le_refl _))
  replace OS := Lib.hid (OS.out.below hb (Nat.le_refl _))
  replace B := Lib.hid (B.out.trans (hb.mono B.out.size))
  have z4 := hb.size
  have OXa := Lib.hid ho
  clear ho hb
  go_wp2_with fail
  ((with_reducible refine (Hlp.toIntS _ _ _ _ _ bs _ IB.out (by omega)).mono ?_); rintro e w5 ⟨AXb, cXb, rfl, ho, hb⟩)
  replace IA := Lib.hid (IA.out.below hb (Nat.le_refl _))
  replace IB := Lib.hid (IB.out.below hb (Nat.le_refl _))
  replace OS := Lib.hid (OS.out.below hb (Nat.le_refl _))
  replace OXa := Lib.hid (OXa.out.below hb (Nat.le_refl _))
  replace B := Lib.hid (B.out.trans (hb.mono B.out.size))
  have z5 := hb.size
  have OXb := Lib.hid ho
  clear ho hb
  go_wp2_with fail
  ((with_reducible refine (Im10.ReplyOpen ks bs _ _ _ _ _ _ _ _ _ _ _ OXa.out.ints OXb.out.ints).mono ?_); rintro e w6 ⟨AM, cM, rfl, ho, hb⟩)
  replace IA := Lib.hid (IA.out.below hb (Nat.le_refl _))
  replace IB := Lib.hid (IB.out.below hb (Nat.le_refl _))
  replace OS := Lib.hid (OS.out.below hb (Nat.le_refl _))
  replace OXa := Lib.hid (OXa.out.below hb (Nat.le_refl _))
  replace OXb := Lib.hid (OXb.out.below hb (Nat.le_refl _))
  replace B := Lib.hid (B.out.trans (hb.mono B.out.size))
  have z6 := hb.size
  have OM := Lib.hid ho
  clear ho hb
  go_wp2_with fail
  ((with_reducible refine (Hlp.eqIntS _ _ _ _ _ _ _ _ _ _ _ _ _ OM.out.ints OS.out.ints).mono ?_); rintro e w7 ⟨rfl, hd⟩)
  have hb0 := drew_below hd
  clear hd
  replace IA := Lib.hid (IA.out.below hb0 (Nat.le_refl _))
  replace IB := Lib.hid (IB.out.below hb0 (Nat.le_refl _))
  replace OS := Lib.hid (OS.out.below hb0 (Nat.le_refl _))
  replace OXa := Lib.hid (OXa.out.below hb0 (Nat.le_refl _))
  replace OXb := Lib.hid (OXb.out.below hb0 (Nat.le_refl _))
  replace OM := Lib.hid (OM.out.below hb0 (Nat.le_refl _))
  replace B := Lib.hid (B.out.trans (hb0.mono B.out.size))
  have z7 := hb0.size
  clear hb0
  rw [decide_eq_true rfl]
  go_wp2_with fail
  ((with_reducible refine (Hlp.toIntS _ _ _ _ _ ks _ IA.out (by omega)).mono ?_); rintro e w8 ⟨AUa, cUa, rfl, ho, hb⟩)
  replace IA := Lib.hid (IA.out.below hb (Nat.le_refl _))
  replace IB := Lib.hid (IB.out.below hb (Nat.le_refl _))
  replace OS := Lib.hid (OS.out.below hb (Nat.le_refl _))
  replace OXa := Lib.hid (OXa.out.below hb (Nat.le_refl _))
  replace OXb := Lib.hid (OXb.out.below hb (Nat.le_refl _))
  replace OM := Lib.hid (OM.out.below hb (Nat.le_refl _))
  replace B := Lib.hid (B.out.trans (hb.mono B.out.size))
  have z8 := hb.size
  have OUa := Lib.hid ho
  clear ho hb
  go_wp2_with fail
  ((with_reducible refine (Hlp.eqIntS _ _ _ _ _ _ _ _ _ _ _ _ _ OXa.out.ints OUa.out.ints).mono ?_); rintro e w9 ⟨rfl, hd⟩)
  have hb0 := drew_below hd
  clear hd
  replace IA := Lib.hid (IA.out.below hb0 (Nat.le_refl _))
  replace IB := Lib.hid (IB.out.below hb0 (Nat.le_refl _))
  replace OS := Lib.hid (OS.out.below hb0 (Nat.le_refl _))
  replace OXa := Lib.hid (OXa.out.below hb0 (Nat.le_refl _))
  replace OXb := Lib.hid (OXb.out.below hb0 (Nat.le_refl _))
  replace OM := Lib.hid (OM.out.below hb0 (Nat.le_refl _))
  replace OUa := Lib.hid (OUa.out.below hb0 (Nat.le_refl _))
  replace B := Lib.hid (B.out.trans (hb0.mono B.out.size))
  have z9 := hb0.size
  clear hb0
  rw [decide_eq_true rfl]
  clear OUa
  go_wp2_with fail
  ((with_reducible refine (Hlp.toIntS _ _ _ _ _ bs _ IB.out (by omega)).mono ?_); rintro e w10 ⟨AUb, cUb, rfl, ho, hb⟩)
  replace IA := Lib.hid (IA.out.below hb (Nat.le_refl _))
  replace IB := Lib.hid (IB.out.below hb (Nat.le_refl _))
  replace OS := Lib.hid (OS.out.below hb (Nat.le_refl _))
  replace OXa := Lib.hid (OXa.out.below hb (Nat.le_refl _))
  replace OXb := Lib.hid (OXb.out.below hb (Nat.le_refl _))
  replace OM := Lib.hid (OM.out.below hb (Nat.le_refl _))
  replace B := Lib.hid (B.out.trans (hb.mono B.out.size))
  have z10 := hb.size
  have OUb := Lib.hid ho
  clear ho hb
  go_wp2_with fail
  ((with_reducible refine (Hlp.eqIntS _ _ _ _ _ _ _ _ _ _ _ _ _ OXb.out.ints OUb.out.ints).mono ?_); rintro e w11 ⟨rfl, hd⟩)
  have hb0 := drew_below hd
  clear hd
  replace IA := Lib.hid (IA.out.below hb0 (Nat.le_refl _))
  replace IB := Lib.hid (IB.out.below hb0 (Nat.le_refl _))
  replace OS := Lib.hid (OS.out.below hb0 (Nat.le_refl _))
  replace OXa := Lib.hid (OXa.out.below hb0 (Nat.le_refl _))
  replace OXb := Lib.hid (OXb.out.below hb0 (Nat.le_refl _))
  replace OM := Lib.hid (OM.out.below hb0 (Nat.le_refl _))
  replace OUb := Lib.hid (OUb.out.below hb0 (Nat.le_refl _))
  replace B := Lib.hid (B.out.trans (hb0.mono B.out.size))
  have z11 := hb0.size
  clear hb0
  rw [decide_eq_true rfl]
  clear OUb
  go_wp2_with fail
  ((with_reducible refine (Hlp.markIntS _ _ _ _ _ _ 1 _ OXa.out (by omega) (by omega) (by omega)).mono ?_); rintro e w12 ⟨rfl, hm, hk⟩)
  replace IA := Lib.hid (IA.out.kept hk (by omega))
  replace IB := Lib.hid (IB.out.kept hk (by omega))
  replace OS := Lib.hid (OS.out.kept hk (by omega))
  replace OXb := Lib.hid (OXb.out.kept hk (by omega))
  replace OM := Lib.hid (OM.out.kept hk (by omega))
  replace B := Lib.hid (B.out.trans (hk.below (by omega)))
  replace OXa := Lib.hid hm
  have z12 := Nat.le_of_eq hk.size.symm
  have y12 := Nat.le_of_eq hk.size
  clear hm hk
  go_wp2_with fail
  ((with_reducible refine (Hlp.markIntS _ _ _ _ _ _ _ _ OXb.out (by omega) (by omega) (by omega)).mono ?_); rintro e w13 ⟨rfl, hm, hk⟩)
  replace IA := Lib.hid (IA.out.kept hk (by omega))
  replace IB := Lib.hid (IB.out.kept hk (by omega))
  replace OS := Lib.hid (OS.out.kept hk (by omega))
  replace OXa := Lib.hid (OXa.out.kept hk (by omega))
  replace OM := Lib.hid (OM.out.kept hk (by omega))
  replace B := Lib.hid (B.out.trans (hk.below (by omega)))
  replace OXb := Lib.hid hm
  have z13 := Nat.le_of_eq hk.size.symm
  have y13 := Nat.le_of_eq hk.size
  clear hm hk
  go_wp2_with fail
  ((with_reducible refine (Hlp.eqIntS _ _ _ _ _ _ _ _ _ _ _ _ _ OM.out.ints OS.out.ints).mono ?_); rintro e w14 ⟨rfl, hd⟩)
  have hb0 := drew_below hd
  clear hd
  replace IA := Lib.hid (IA.out.below hb0 (Nat.le_refl _))
  replace IB := Lib.hid (IB.out.below hb0 (Nat.le_refl _))
  replace OS := Lib.hid (OS.out.below hb0 (Nat.le_refl _))
  replace OXa := Lib.hid (OXa.out.below hb0 (Nat.le_refl _))
  replace OXb := Lib.hid (OXb.out.below hb0 (Nat.le_refl _))
  replace OM := Lib.hid (OM.out.below hb0 (Nat.le_refl _))
  replace B := Lib.hid (B.out.trans (hb0.mono B.out.size))
  have z14 := hb0.size
  clear hb0
  rw [decide_eq_true rfl]
  clear OXa OXb
  go_wp2_with fail
  ((with_reducible refine (Hlp.markIntS _ _ _ _ _ _ 1 _ OM.out (by omega) (by omega) (by omega)).mono ?_); rintro e w15 ⟨rfl, hm, hk⟩)
  replace IA := Lib.hid (IA.out.kept hk (by omega))
  replace IB := Lib.hid (IB.out.kept hk (by omega))
  replace OS := Lib.hid (OS.out.kept hk (by omega))
  replace B := Lib.hid (B.out.trans (hk.below (by omega)))
  replace OM := Lib.hid hm
  have z15 := Nat.le_of_eq hk.size.symm
  have y15 := Nat.le_of_eq hk.size
  clear hm hk
  go_wp2_with fail
  ((with_reducible refine (Hlp.heldIntS _ _ _ _ _ 1 _ OM.out.ints (by omega) (by omega) (by omega)).mono ?_); rintro e w' ⟨rfl, rfl⟩)
  go_wp2_with fail
  ((with_reducible refine (Hlp.toIntS _ _ _ _ _ ks _ IA.out (by omega)).mono ?_); rintro e w17 ⟨AVa, cVa, rfl, ho, hb⟩)
  replace IA := Lib.hid (IA.out.below hb (Nat.le_refl _))
  replace IB := Lib.hid (IB.out.below hb (Nat.le_refl _))
  replace OS := Lib.hid (OS.out.below hb (Nat.le_refl _))
  replace OM := Lib.hid (OM.out.below hb (Nat.le_refl _))
  replace B := Lib.hid (B.out.trans (hb.mono B.out.size))
  have z17 := hb.size
  have OVa := Lib.hid ho
  clear ho hb
  go_wp2_with fail
  ((with_reducible refine (Hlp.toIntS _ _ _ _ _ bs _ IB.out (by omega)).mono ?_); rintro e w18 ⟨AVb, cVb, rfl, ho, hb⟩)
  replace IA := Lib.hid (IA.out.below hb (Nat.le_refl _))
  replace IB := Lib.hid (IB.out.below hb (Nat.le_refl _))
  replace OS := Lib.hid (OS.out.below hb (Nat.le_refl _))
  replace OM := Lib.hid (OM.out.below hb (Nat.le_refl _))
  replace OVa := Lib.hid (OVa.out.below hb (Nat.le_refl _))
  replace B := Lib.hid (B.out.trans (hb.mono B.out.size))
  have z18 := hb.size
  have OVb := Lib.hid ho
  clear ho hb
  go_wp2_with fail
  ((with_reducible refine (Im10.ReplyOpen ks bs _ _ _ _ _ _ _ _ _ _ _ OVa.out.ints OVb.out.ints).mono ?_); rintro e w19 ⟨AH, cH, rfl, ho, hb⟩)
  replace IA := Lib.hid (IA.out.below hb (Nat.le_refl _))
  replace IB := Lib.hid (IB.out.below hb (Nat.le_refl _))
  replace OS := Lib.hid (OS.out.below hb (Nat.le_refl _))
  replace OM := Lib.hid (OM.out.below hb (Nat.le_refl _))
  replace OVa := Lib.hid (OVa.out.below hb (Nat.le_refl _))
  replace OVb := Lib.hid (OVb.out.below hb (Nat.le_refl _))
  replace B := Lib.hid (B.out.trans (hb.mono B.out.size))
  have z19 := hb.size
  have OH := Lib.hid ho
  clear ho hb
  go_wp2_with fail
  ((with_reducible refine (Hlp.eqIntS _ _ _ _ _ _ _ _ _ _ _ _ _ OH.out.ints OS.out.ints).mono ?_); rintro e w20 ⟨rfl, hd⟩)
  have hb0 := drew_below hd
  clear hd
  replace IA := Lib.hid (IA.out.below hb0 (Nat.le_refl _))
  replace IB := Lib.hid (IB.out.below hb0 (Nat.le_refl _))
  replace OS := Lib.hid (OS.out.below hb0 (Nat.le_refl _))
  replace OM := Lib.hid (OM.out.below hb0 (Nat.le_refl _))
  replace OVa := Lib.hid (OVa.out.below hb0 (Nat.le_refl _))
  replace OVb := Lib.hid (OVb.out.below hb0 (Nat.le_refl _))
  replace OH := Lib.hid (OH.out.below hb0 (Nat.le_refl _))
  replace B := Lib.hid (B.out.trans (hb0.mono B.out.size))
  have z20 := hb0.size
  clear hb0
  rw [decide_eq_true rfl]
  go_wp2_with fail
  ((with_reducible refine (Hlp.heldIntS _ _ _ _ _ 1 _ OM.out.ints (by omega) (by omega) (by omega)).mono ?_); rintro e w' ⟨rfl, rfl⟩)
  go_wp2
  go_ret
  exact ⟨rfl, B.out⟩

set_option maxRecDepth 20000 in
set_option maxHeartbeats 2000000 in
theorem fnExactReplyMake (x : Int) (A : Option Addr) (n c : Nat) (ps : List Int) (A2 : Option Addr) (n2 c2 : Nat) (ns : List Int) (r : Int) (w : World) (hx : Ints 0 w.heap.size w A n c ps) (hx2 : Ints 0 w.heap.size w A2 n2 c2 ns) :
    Calls Try.prog 10 #[.int .i64 x, .slice A n c, .slice A2 n2 c2, .int .i64 r] w (TruePost w) := by
  have l1 := hx.len_
  have l2 := hx2.len_
  have IA := Lib.hid hx
  have IB := Lib.hid hx2
  clear hx hx2
  by_cases q1 : 1048576 < n
  · go_enter Try.func10, Try.ntmps10
    go_wp2
    go_ret
    exact ⟨rfl, Below.refl _ _⟩
  by_cases q2 : 1048576 < n2
  · go_enter Try.func10, Try.ntmps10
    go_wp2
    go_ret
    exact ⟨rfl, Below.refl _ _⟩
  have r1 : ps.length ≤ 1048576 := by omega
  have r2 : ns.length ≤ 1048576 := by omega
  clear l1 l2
  have B : Hid (Below w.heap.size w w) := Below.refl _ _
  go_enter Try.func10, Try.ntmps10
  obtain ⟨hp1, hp2⟩ := rep_lens x r ps ns
  go_wp2_with fail
  ((with_reducible refine (Hlp.toIntS _ _ _ _ _ ps _ IA.out (by omega)).mono ?_); rintro e w1 ⟨ATa, cTa, rfl, ho, hb⟩)
  replace IA := Lib.hid (IA.out.below hb (Nat.le_refl _))
  replace IB := Lib.hid (IB.out.below hb (Nat.le_refl _))
  replace B := Lib.hid (B.out.trans (hb.mono B.out.size))
  have z1 := hb.size
  have OTa := Lib.hid ho
  clear ho hb
  go_wp2_with fail
  ((with_reducible refine (Hlp.toIntS _ _ _ _ _ ns _ IB.out (by omega)).mono ?_); rintro e w2 ⟨ATb, cTb, rfl, ho, hb⟩)
  replace IA := Lib.hid (IA.out.below hb (Nat.le_refl _))
  replace IB := Lib.hid (IB.out.below hb (Nat.le_refl _))
  replace OTa := Lib.hid (OTa.out.below hb (Nat.le_refl _))
  replace B := Lib.hid (B.out.trans (hb.mono B.out.size))
  have z2 := hb.size
  have OTb := Lib.hid ho
  clear ho hb
  go_wp2_with fail
  ((with_reducible refine (Sp10.ReplyMake ps ns x r _ _ _ _ _ _ _ _ _ _ _ OTa.out.ints OTb.out.ints).mono ?_); rintro e w3 ⟨AS, cs, BS, ds, g3, g4, rfl, hlie, hg3, hg4, hb⟩)
  replace IA := Lib.hid (IA.out.below hb (Nat.le_refl _))
  replace IB := Lib.hid (IB.out.below hb (Nat.le_refl _))
  replace OTa := Lib.hid (OTa.out.below hb (Nat.le_refl _))
  replace OTb := Lib.hid (OTb.out.below hb (Nat.le_refl _))
  replace B := Lib.hid (B.out.trans (hb.mono B.out.size))
  have z3 := hb.size
  have LS := Lib.hid hlie
  clear hlie hb
  obtain ⟨t3, t4⟩ := lies_lt LS.out
  have T3 := Lib.hid t3
  have T4 := Lib.hid t4
  clear t3 t4
  generalize hpe : repF x ps ns r = p at *
  generalize hfe : fstF x ps ns r = f at *
  have HPE := Lib.hid hpe
  have HFE := Lib.hid hfe
  clear hpe hfe
  have hal : Below w3.heap.size w3 (w3.alloc (.cells #[.int .i64 f, .int .i64 p.el, .slice AS p.hd.length cs, .int .i64 p.tag] 27)) := (Below.refl _ _).alloc (Nat.le_refl _) _
  have hzz : Blk (w3.alloc (.cells #[.int .i64 f, .int .i64 p.el, .slice AS p.hd.length cs, .int .i64 p.tag] 27)) w3.heap.size #[.int .i64 f, .int .i64 p.el, .slice AS p.hd.length cs, .int .i64 p.tag] 27 := heap_alloc_new _ _
  replace IA := Lib.hid (IA.out.below hal (Nat.le_refl _))
  replace IB := Lib.hid (IB.out.below hal (Nat.le_refl _))
  replace OTa := Lib.hid (OTa.out.below hal (Nat.le_refl _))
  replace OTb := Lib.hid (OTb.out.below hal (Nat.le_refl _))
  replace LS := Lib.hid (LS.out.below hal (Nat.le_refl _))
  replace B := Lib.hid (B.out.trans (hal.mono B.out.size))
  have ZS := Lib.hid hzz
  clear hzz
  clear hal
  have hzs : w3.heap.size < (w3.alloc (.cells #[.int .i64 f, .int .i64 p.el, .slice AS p.hd.length cs, .int .i64 p.tag] 27)).heap.size := by simp
  clear OTa OTb
  go_wp2_with fail
  ((with_reducible refine (Hlp.toIntS _ _ _ _ _ ps _ IA.out (by omega)).mono ?_); rintro e w5 ⟨AXa, cXa, rfl, ho, hb⟩)
  replace IA := Lib.hid (IA.out.below hb (Nat.le_refl _))
  replace IB := Lib.hid (IB.out.below hb (Nat.le_refl _))
  replace LS := Lib.hid (LS.out.below hb (Nat.le_refl _))
  replace ZS := Lib.hid (ZS.out.below hb (Nat.le_refl _))
  replace B := Lib.hid (B.out.trans (hb.mono B.out.size))
  have z5 := hb.size
  have OXa := Lib.hid ho
  clear ho hb
  go_wp2_with fail
  ((with_reducible refine (Hlp.toIntS _ _ _ _ _ ns _ IB.out (by omega)).mono ?_); rintro e w6 ⟨AXb, cXb, rfl, ho, hb⟩)
  replace IA := Lib.hid (IA.out.below hb (Nat.le_refl _))
  replace IB := Lib.hid (IB.out.below hb (Nat.le_refl _))
  replace LS := Lib.hid (LS.out.below hb (Nat.le_refl _))
  replace ZS := Lib.hid (ZS.out.below hb (Nat.le_refl _))
  replace OXa := Lib.hid (OXa.out.below hb (Nat.le_refl _))
  replace B := Lib.hid (B.out.trans (hb.mono B.out.size))
  have z6 := hb.size
  have OXb := Lib.hid ho
  clear ho hb
  go_wp2_with fail
  ((with_reducible refine (Im10.ReplyMake ps ns x r _ _ _ _ _ _ _ _ _ _ _ OXa.out.ints OXb.out.ints).mono ?_); rintro e w7 ⟨AM, cm, BM, dm, g1, g2, rfl, hlie, hg1, hg2, hb⟩)
  replace IA := Lib.hid (IA.out.below hb (Nat.le_refl _))
  replace IB := Lib.hid (IB.out.below hb (Nat.le_refl _))
  replace LS := Lib.hid (LS.out.below hb (Nat.le_refl _))
  replace ZS := Lib.hid (ZS.out.below hb (Nat.le_refl _))
  replace OXa := Lib.hid (OXa.out.below hb (Nat.le_refl _))
  replace OXb := Lib.hid (OXb.out.below hb (Nat.le_refl _))
  replace B := Lib.hid (B.out.trans (hb.mono B.out.size))
  have z7 := hb.size
  have LM := Lib.hid hlie
  clear hlie hb
  rw [HPE.out] at LM ⊢
  rw [HFE.out]
  obtain ⟨t1, t2⟩ := lies_lt LM.out
  have T1 := Lib.hid t1
  have T2 := Lib.hid t2
  clear t1 t2
  have hal : Below w7.heap.size w7 (w7.alloc (.cells #[.int .i64 f, .int .i64 p.el, .slice AM p.hd.length cm, .int .i64 p.tag] 27)) := (Below.refl _ _).alloc (Nat.le_refl _) _
  have hzz : Blk (w7.alloc (.cells #[.int .i64 f, .int .i64 p.el, .slice AM p.hd.length cm, .int .i64 p.tag] 27)) w7.heap.size #[.int .i64 f, .int .i64 p.el, .slice AM p.hd.length cm, .int .i64 p.tag] 27 := heap_alloc_new _ _
  replace IA := Lib.hid (IA.out.below hal (Nat.le_refl _))
  replace IB := Lib.hid (IB.out.below hal (Nat.le_refl _))
  replace LS := Lib.hid (LS.out.below hal (Nat.le_refl _))
  replace ZS := Lib.hid (ZS.out.below hal (Nat.le_refl _))
  replace OXa := Lib.hid (OXa.out.below hal (Nat.le_refl _))
  replace OXb := Lib.hid (OXb.out.below hal (Nat.le_refl _))
  replace LM := Lib.hid (LM.out.below hal (Nat.le_refl _))
  replace B := Lib.hid (B.out.trans (hal.mono B.out.size))
  have ZM := Lib.hid hzz
  clear hzz
  clear hal
  have hzm : w7.heap.size < (w7.alloc (.cells #[.int .i64 f, .int .i64 p.el, .slice AM p.hd.length cm, .int .i64 p.tag] 27)).heap.size := by simp
  obtain ⟨m0, m1, m2, m3, mf⟩ := four_cells ZM.out
  obtain ⟨s0, s1, s2, s3, sf⟩ := four_cells ZS.out
  go_wp2_with fail
  ((with_reducible refine (H10.eqBlock f p.el p.tag p.hd _ _ _ _ _ _ _ _ _ _ _ LM.out.hdr.ints LS.out.hdr.ints).mono ?_); rintro e w9 ⟨rfl, hb⟩)
  replace IA := Lib.hid (IA.out.below hb (Nat.le_refl _))
  replace IB := Lib.hid (IB.out.below hb (Nat.le_refl _))
  replace LS := Lib.hid (LS.out.below hb (Nat.le_refl _))
  replace ZS := Lib.hid (ZS.out.below hb (Nat.le_refl _))
  replace OXa := Lib.hid (OXa.out.below hb (Nat.le_refl _))
  replace OXb := Lib.hid (OXb.out.below hb (Nat.le_refl _))
  replace LM := Lib.hid (LM.out.below hb (Nat.le_refl _))
  replace ZM := Lib.hid (ZM.out.below hb (Nat.le_refl _))
  replace B := Lib.hid (B.out.trans (hb.mono B.out.size))
  have z9 := hb.size
  clear hb
  clear m0 m1 m2 m3 mf s0 s1 s2 s3 sf
  go_wp2_with fail
  ((with_reducible refine (Hlp.eqIntS _ _ _ _ _ _ _ _ _ _ _ _ _ LM.out.bdy.ints LS.out.bdy.ints).mono ?_); rintro e w10 ⟨rfl, hd⟩)
  have hb0 := drew_below hd
  clear hd
  replace IA := Lib.hid (IA.out.below hb0 (Nat.le_refl _))
  replace IB := Lib.hid (IB.out.below hb0 (Nat.le_refl _))
  replace LS := Lib.hid (LS.out.below hb0 (Nat.le_refl _))
  replace ZS := Lib.hid (ZS.out.below hb0 (Nat.le_refl _))
  replace OXa := Lib.hid (OXa.out.below hb0 (Nat.le_refl _))
  replace OXb := Lib.hid (OXb.out.below hb0 (Nat.le_refl _))
  replace LM := Lib.hid (LM.out.below hb0 (Nat.le_refl _))
  replace ZM := Lib.hid (ZM.out.below hb0 (Nat.le_refl _))
  replace B := Lib.hid (B.out.trans (hb0.mono B.out.size))
  have z10 := hb0.size
  clear hb0
  rw [decide_eq_true rfl]
  go_wp2_with fail
  ((with_reducible refine (Hlp.toIntS _ _ _ _ _ ps _ IA.out (by omega)).mono ?_); rintro e w11 ⟨AUa, cUa, rfl, ho, hb⟩)
  replace IA := Lib.hid (IA.out.below hb (Nat.le_refl _))
  replace IB := Lib.hid (IB.out.below hb (Nat.le_refl _))
  replace LS := Lib.hid (LS.out.below hb (Nat.le_refl _))
  replace ZS := Lib.hid (ZS.out.below hb (Nat.le_refl _))
  replace OXa := Lib.hid (OXa.out.below hb (Nat.le_refl _))
  replace OXb := Lib.hid (OXb.out.below hb (Nat.le_refl _))
  replace LM := Lib.hid (LM.out.below hb (Nat.le_refl _))
  replace ZM := Lib.hid (ZM.out.below hb (Nat.le_refl _))
  replace B := Lib.hid (B.out.trans (hb.mono B.out.size))
  have z11 := hb.size
  have OUa := Lib.hid ho
  clear ho hb
  go_wp2_with fail
  ((with_reducible refine (Hlp.eqIntS _ _ _ _ _ _ _ _ _ _ _ _ _ OXa.out.ints OUa.out.ints).mono ?_); rintro e w12 ⟨rfl, hd⟩)
  have hb0 := drew_below hd
  clear hd
  replace IA := Lib.hid (IA.out.below hb0 (Nat.le_refl _))
  replace IB := Lib.hid (IB.out.below hb0 (Nat.le_refl _))
  replace LS := Lib.hid (LS.out.below hb0 (Nat.le_refl _))
  replace ZS := Lib.hid (ZS.out.below hb0 (Nat.le_refl _))
  replace OXa := Lib.hid (OXa.out.below hb0 (Nat.le_refl _))
  replace OXb := Lib.hid (OXb.out.below hb0 (Nat.le_refl _))
  replace LM := Lib.hid (LM.out.below hb0 (Nat.le_refl _))
  replace ZM := Lib.hid (ZM.out.below hb0 (Nat.le_refl _))
  replace OUa := Lib.hid (OUa.out.below hb0 (Nat.le_refl _))
  replace B := Lib.hid (B.out.trans (hb0.mono B.out.size))
  have z12 := hb0.size
  clear hb0
  rw [decide_eq_true rfl]
  clear OUa
  go_wp2_with fail
  ((with_reducible refine (Hlp.toIntS _ _ _ _ _ ns _ IB.out (by omega)).mono ?_); rintro e w13 ⟨AUb, cUb, rfl, ho, hb⟩)
  replace IA := Lib.hid (IA.out.below hb (Nat.le_refl _))
  replace IB := Lib.hid (IB.out.below hb (Nat.le_refl _))
  replace LS := Lib.hid (LS.out.below hb (Nat.le_refl _))
  replace ZS := Lib.hid (ZS.out.below hb (Nat.le_refl _))
  replace OXa := Lib.hid (OXa.out.below hb (Nat.le_refl _))
  replace OXb := Lib.hid (OXb.out.below hb (Nat.le_refl _))
  replace LM := Lib.hid (LM.out.below hb (Nat.le_refl _))
  replace ZM := Lib.hid (ZM.out.below hb (Nat.le_refl _))
  replace B := Lib.hid (B.out.trans (hb.mono B.out.size))
  have z13 := hb.size
  have OUb := Lib.hid ho
  clear ho hb
  go_wp2_with fail
  ((with_reducible refine (Hlp.eqIntS _ _ _ _ _ _ _ _ _ _ _ _ _ OXb.out.ints OUb.out.ints).mono ?_); rintro e w14 ⟨rfl, hd⟩)
  have hb0 := drew_below hd
  clear hd
  replace IA := Lib.hid (IA.out.below hb0 (Nat.le_refl _))
  replace IB := Lib.hid (IB.out.below hb0 (Nat.le_refl _))
  replace LS := Lib.hid (LS.out.below hb0 (Nat.le_refl _))
  replace ZS := Lib.hid (ZS.out.below hb0 (Nat.le_refl _))
  replace OXa := Lib.hid (OXa.out.below hb0 (Nat.le_refl _))
  replace OXb := Lib.hid (OXb.out.below hb0 (Nat.le_refl _))
  replace LM := Lib.hid (LM.out.below hb0 (Nat.le_refl _))
  replace ZM := Lib.hid (ZM.out.below hb0 (Nat.le_refl _))
  replace OUb := Lib.hid (OUb.out.below hb0 (Nat.le_refl _))
  replace B := Lib.hid (B.out.trans (hb0.mono B.out.size))
  have z14 := hb0.size
  clear hb0
  rw [decide_eq_true rfl]
  clear OUb
  go_wp2_with fail
  ((with_reducible refine (Hlp.markIntS _ _ _ _ _ _ 1 _ OXa.out (by omega) (by omega) (by omega)).mono ?_); rintro e w15 ⟨rfl, hm, hk⟩)
  replace IA := Lib.hid (IA.out.kept hk (by omega))
  replace IB := Lib.hid (IB.out.kept hk (by omega))
  replace LS := Lib.hid (lies_keptC LS.out hk (fun h => by have := T3.out h; omega) (fun h => by have := T4.out h; omega))
  replace ZS := Lib.hid (blk_kept ZS.out hk (by omega))
  replace OXb := Lib.hid (OXb.out.kept hk (by omega))
  replace LM := Lib.hid (lies_kept LM.out hk (by omega))
  replace ZM := Lib.hid (blk_kept ZM.out hk (by omega))
  replace B := Lib.hid (B.out.trans (hk.below (by omega)))
  replace OXa := Lib.hid hm
  have z15 := Nat.le_of_eq hk.size.symm
  have y15 := Nat.le_of_eq hk.size
  clear hm hk
  go_wp2_with fail
  ((with_reducible refine (Hlp.markIntS _ _ _ _ _ _ _ _ OXb.out (by omega) (by omega) (by omega)).mono ?_); rintro e w16 ⟨rfl, hm, hk⟩)
  replace IA := Lib.hid (IA.out.kept hk (by omega))
  replace IB := Lib.hid (IB.out.kept hk (by omega))
  replace LS := Lib.hid (lies_keptC LS.out hk (fun h => by have := T3.out h; omega) (fun h => by have := T4.out h; omega))
  replace ZS := Lib.hid (blk_kept ZS.out hk (by omega))
  replace OXa := Lib.hid (OXa.out.kept hk (by omega))
  replace LM := Lib.hid (lies_kept LM.out hk (by omega))
  replace ZM := Lib.hid (blk_kept ZM.out hk (by omega))
  replace B := Lib.hid (B.out.trans (hk.below (by omega)))
  replace OXb := Lib.hid hm
  have z16 := Nat.le_of_eq hk.size.symm
  have y16 := Nat.le_of_eq hk.size
  clear hm hk
  obtain ⟨m0, m1, m2, m3, mf⟩ := four_cells ZM.out
  obtain ⟨s0, s1, s2, s3, sf⟩ := four_cells ZS.out
  go_wp2_with fail
  ((with_reducible refine (H10.eqBlock f p.el p.tag p.hd _ _ _ _ _ _ _ _ _ _ _ LM.out.hdr.ints LS.out.hdr.ints).mono ?_); rintro e w17 ⟨rfl, hb⟩)
  replace IA := Lib.hid (IA.out.below hb (Nat.le_refl _))
  replace IB := Lib.hid (IB.out.below hb (Nat.le_refl _))
  replace LS := Lib.hid (LS.out.below hb (Nat.le_refl _))
  replace ZS := Lib.hid (ZS.out.below hb (Nat.le_refl _))
  replace OXa := Lib.hid (OXa.out.below hb (Nat.le_refl _))
  replace OXb := Lib.hid (OXb.out.below hb (Nat.le_refl _))
  replace LM := Lib.hid (LM.out.below hb (Nat.le_refl _))
  replace ZM := Lib.hid (ZM.out.below hb (Nat.le_refl _))
  replace B := Lib.hid (B.out.trans (hb.mono B.out.size))
  have z17 := hb.size
  clear hb
  clear m0 m1 m2 m3 mf s0 s1 s2 s3 sf
  go_wp2_with fail
  ((with_reducible refine (Hlp.eqIntS _ _ _ _ _ _ _ _ _ _ _ _ _ LM.out.bdy.ints LS.out.bdy.ints).mono ?_); rintro e w18 ⟨rfl, hd⟩)
  have hb0 := drew_below hd
  clear hd
  replace IA := Lib.hid (IA.out.below hb0 (Nat.le_refl _))
  replace IB := Lib.hid (IB.out.below hb0 (Nat.le_refl _))
  replace LS := Lib.hid (LS.out.below hb0 (Nat.le_refl _))
  replace ZS := Lib.hid (ZS.out.below hb0 (Nat.le_refl _))
  replace OXa := Lib.hid (OXa.out.below hb0 (Nat.le_refl _))
  replace OXb := Lib.hid (OXb.out.below hb0 (Nat.le_refl _))
  replace LM := Lib.hid (LM.out.below hb0 (Nat.le_refl _))
  replace ZM := Lib.hid (ZM.out.below hb0 (Nat.le_refl _))
  replace B := Lib.hid (B.out.trans (hb0.mono B.out.size))
  have z18 := hb0.size
  clear hb0
  rw [decide_eq_true rfl]
  clear OXa OXb
  have hne := LM.out.2.2
  have OP := Lib.hid LM.out.hdr
  have OQ := Lib.hid LM.out.bdy
  clear LM
  have hBs := B.out.size
  obtain ⟨m0, m1, m2, m3, mf⟩ := four_cells ZM.out
  go_wp2_with fail
  ((with_reducible refine (markB OP.out (by omega) (by omega) (by omega)).mono ?_); rintro e w19 ⟨rfl, mk1, hk⟩)
  clear m0 m1 m2 m3 mf
  replace IA := Lib.hid (ints_kept2 IA.out hk (fun _ => by omega) no0)
  replace IB := Lib.hid (ints_kept2 IB.out hk (fun _ => by omega) no0)
  replace LS := Lib.hid (lies_kept2 LS.out hk (fun h => ⟨fun _ => by have := T3.out h; omega, no0⟩) (fun h => ⟨fun _ => by have := T4.out h; omega, no0⟩))
  replace ZS := Lib.hid (blk_kept2 ZS.out hk (fun _ => by omega) no0)
  replace ZM := Lib.hid (blk_kept2 ZM.out hk (fun h => by have := T1.out h; omega) no0)
  replace OQ := Lib.hid (own_kept2 OQ.out hk (fun h => ⟨fun _ => by omega, no0⟩))
  replace B := Lib.hid (below_kept2 B.out hk hBs (by omega) (by omega))
  replace OP := Lib.hid mk1
  have z19 := hk.size
  clear mk1 hk hBs
  have hBs := B.out.size
  go_wp2_with fail
  ((with_reducible refine (markI2 OQ.out (by omega) (by omega) (by omega)).mono ?_); rintro e w20 ⟨rfl, mk1, hk⟩)
  replace IA := Lib.hid (ints_kept2 IA.out hk (fun _ => by omega) no0)
  replace IB := Lib.hid (ints_kept2 IB.out hk (fun _ => by omega) no0)
  replace LS := Lib.hid (lies_kept2 LS.out hk (fun h => ⟨fun _ => by have := T3.out h; omega, no0⟩) (fun h => ⟨fun _ => by have := T4.out h; omega, no0⟩))
  replace ZS := Lib.hid (blk_kept2 ZS.out hk (fun _ => by omega) no0)
  replace ZM := Lib.hid (blk_kept2 ZM.out hk (fun h => by have := T2.out h; omega) no0)
  replace OP := Lib.hid (own_kept2 OP.out hk (fun h => ⟨fun _ => by omega, no0⟩))
  replace B := Lib.hid (below_kept2 B.out hk hBs (by omega) (by omega))
  replace OQ := Lib.hid mk1
  have z20 := hk.size
  clear mk1 hk hBs
  obtain ⟨m0, m1, m2, m3, mf⟩ := four_cells ZM.out
  go_wp2_with fail
  ((with_reducible refine (H10.heldBlock f p.el p.tag _ _ _ _ _ 1 _ OP.out.ints (by omega) (by omega) (by omega)).mono ?_); rintro e w21 ⟨rfl, hb⟩)
  replace IA := Lib.hid (IA.out.below hb (Nat.le_refl _))
  replace IB := Lib.hid (IB.out.below hb (Nat.le_refl _))
  replace LS := Lib.hid (LS.out.below hb (Nat.le_refl _))
  replace ZS := Lib.hid (ZS.out.below hb (Nat.le_refl _))
  replace ZM := Lib.hid (ZM.out.below hb (Nat.le_refl _))
  replace OP := Lib.hid (OP.out.below hb (Nat.le_refl _))
  replace OQ := Lib.hid (OQ.out.below hb (Nat.le_refl _))
  replace B := Lib.hid (B.out.trans (hb.mono B.out.size))
  have z21 := hb.size
  clear hb
  clear m0 m1 m2 m3 mf
  go_wp2_with fail
  ((with_reducible refine (Hlp.heldIntS _ _ _ _ _ (1 + (p.hd.length : Int)) _ OQ.out.ints (by omega) (by omega) (by omega)).mono ?_); rintro e w' ⟨rfl, rfl⟩)
  go_wp2_with fail
  ((with_reducible refine (Hlp.toIntS _ _ _ _ _ ps _ IA.out (by omega)).mono ?_); rintro e w23 ⟨AVa, cVa, rfl, ho, hb⟩)
  replace IA := Lib.hid (IA.out.below hb (Nat.le_refl _))
  replace IB := Lib.hid (IB.out.below hb (Nat.le_refl _))
  replace LS := Lib.hid (LS.out.below hb (Nat.le_refl _))
  replace ZS := Lib.hid (ZS.out.below hb (Nat.le_refl _))
  replace ZM := Lib.hid (ZM.out.below hb (Nat.le_refl _))
  replace OP := Lib.hid (OP.out.below hb (Nat.le_refl _))
  replace OQ := Lib.hid (OQ.out.below hb (Nat.le_refl _))
  replace B := Lib.hid (B.out.trans (hb.mono B.out.size))
  have z23 := hb.size
  have OVa := Lib.hid ho
  clear ho hb
  go_wp2_with fail
  ((with_reducible refine (Hlp.toIntS _ _ _ _ _ ns _ IB.out (by omega)).mono ?_); rintro e w24 ⟨AVb, cVb, rfl, ho, hb⟩)
  replace IA := Lib.hid (IA.out.below hb (Nat.le_refl _))
  replace IB := Lib.hid (IB.out.below hb (Nat.le_refl _))
  replace LS := Lib.hid (LS.out.below hb (Nat.le_refl _))
  replace ZS := Lib.hid (ZS.out.below hb (Nat.le_refl _))
  replace ZM := Lib.hid (ZM.out.below hb (Nat.le_refl _))
  replace OP := Lib.hid (OP.out.below hb (Nat.le_refl _))
  replace OQ := Lib.hid (OQ.out.below hb (Nat.le_refl _))
  replace OVa := Lib.hid (OVa.out.below hb (Nat.le_refl _))
  replace B := Lib.hid (B.out.trans (hb.mono B.out.size))
  have z24 := hb.size
  have OVb := Lib.hid ho
  clear ho hb
  go_wp2_with fail
  ((with_reducible refine (Im10.ReplyMake ps ns x r _ _ _ _ _ _ _ _ _ _ _ OVa.out.ints OVb.out.ints).mono ?_); rintro e w25 ⟨AH, ch, BH, dh, g5, g6, rfl, hlie, hg5, hg6, hb⟩)
  replace IA := Lib.hid (IA.out.below hb (Nat.le_refl _))
  replace IB := Lib.hid (IB.out.below hb (Nat.le_refl _))
  replace LS := Lib.hid (LS.out.below hb (Nat.le_refl _))
  replace ZS := Lib.hid (ZS.out.below hb (Nat.le_refl _))
  replace ZM := Lib.hid (ZM.out.below hb (Nat.le_refl _))
  replace OP := Lib.hid (OP.out.below hb (Nat.le_refl _))
  replace OQ := Lib.hid (OQ.out.below hb (Nat.le_refl _))
  replace OVa := Lib.hid (OVa.out.below hb (Nat.le_refl _))
  replace OVb := Lib.hid (OVb.out.below hb (Nat.le_refl _))
  replace B := Lib.hid (B.out.trans (hb.mono B.out.size))
  have z25 := hb.size
  have LH := Lib.hid hlie
  clear hlie hb
  rw [HPE.out] at LH ⊢
  rw [HFE.out]
  have hal : Below w25.heap.size w25 (w25.alloc (.cells #[.int .i64 f, .int .i64 p.el, .slice AH p.hd.length ch, .int .i64 p.tag] 27)) := (Below.refl _ _).alloc (Nat.le_refl _) _
  have hzz : Blk (w25.alloc (.cells #[.int .i64 f, .int .i64 p.el, .slice AH p.hd.length ch, .int .i64 p.tag] 27)) w25.heap.size #[.int .i64 f, .int .i64 p.el, .slice AH p.hd.length ch, .int .i64 p.tag] 27 := heap_alloc_new _ _
  replace IA := Lib.hid (IA.out.below hal (Nat.le_refl _))
  replace IB := Lib.hid (IB.out.below hal (Nat.le_refl _))
  replace LS := Lib.hid (LS.out.below hal (Nat.le_refl _))
  replace ZS := Lib.hid (ZS.out.below hal (Nat.le_refl _))
  replace ZM := Lib.hid (ZM.out.below hal (Nat.le_refl _))
  replace OP := Lib.hid (OP.out.below hal (Nat.le_refl _))
  replace OQ := Lib.hid (OQ.out.below hal (Nat.le_refl _))
  replace OVa := Lib.hid (OVa.out.below hal (Nat.le_refl _))
  replace OVb := Lib.hid (OVb.out.below hal (Nat.le_refl _))
  replace LH := Lib.hid (LH.out.below hal (Nat.le_refl _))
  replace B := Lib.hid (B.out.trans (hal.mono B.out.size))
  have ZH := Lib.hid hzz
  clear hzz
  clear hal
  obtain ⟨m0, m1, m2, m3, mf⟩ := four_cells ZH.out
  obtain ⟨s0, s1, s2, s3, sf⟩ := four_cells ZS.out
  go_wp2_with fail
  ((with_reducible refine (H10.eqBlock f p.el p.tag p.hd _ _ _ _ _ _ _ _ _ _ _ LH.out.hdr.ints LS.out.hdr.ints).mono ?_); rintro e w27 ⟨rfl, hb⟩)
  replace IA := Lib.hid (IA.out.below hb (Nat.le_refl _))
  replace IB := Lib.hid (IB.out.below hb (Nat.le_refl _))
  replace LS := Lib.hid (LS.out.below hb (Nat.le_refl _))
  replace ZS := Lib.hid (ZS.out.below hb (Nat.le_refl _))
  replace ZM := Lib.hid (ZM.out.below hb (Nat.le_refl _))
  replace OP := Lib.hid (OP.out.below hb (Nat.le_refl _))
  replace OQ := Lib.hid (OQ.out.below hb (Nat.le_refl _))
  replace OVa := Lib.hid (OVa.out.below hb (Nat.le_refl _))
  replace OVb := Lib.hid (OVb.out.below hb (Nat.le_refl _))
  replace LH := Lib.hid (LH.out.below hb (Nat.le_refl _))
  replace ZH := Lib.hid (ZH.out.below hb (Nat.le_refl _))
  replace B := Lib.hid (B.out.trans (hb.mono B.out.size))
  have z27 := hb.size
  clear hb
  clear m0 m1 m2 m3 mf s0 s1 s2 s3 sf
  go_wp2_with fail
  ((with_reducible refine (Hlp.eqIntS _ _ _ _ _ _ _ _ _ _ _ _ _ LH.out.bdy.ints LS.out.bdy.ints).mono ?_); rintro e w28 ⟨rfl, hd⟩)
  have hb0 := drew_below hd
  clear hd
  replace IA := Lib.hid (IA.out.below hb0 (Nat.le_refl _))
  replace IB := Lib.hid (IB.out.below hb0 (Nat.le_refl _))
  replace LS := Lib.hid (LS.out.below hb0 (Nat.le_refl _))
  replace ZS := Lib.hid (ZS.out.below hb0 (Nat.le_refl _))
  replace ZM := Lib.hid (ZM.out.below hb0 (Nat.le_refl _))
  replace OP := Lib.hid (OP.out.below hb0 (Nat.le_refl _))
  replace OQ := Lib.hid (OQ.out.below hb0 (Nat.le_refl _))
  replace OVa := Lib.hid (OVa.out.below hb0 (Nat.le_refl _))
  replace OVb := Lib.hid (OVb.out.below hb0 (Nat.le_refl _))
  replace LH := Lib.hid (LH.out.below hb0 (Nat.le_refl _))
  replace ZH := Lib.hid (ZH.out.below hb0 (Nat.le_refl _))
  replace B := Lib.hid (B.out.trans (hb0.mono B.out.size))
  have z28 := hb0.size
  clear hb0
  rw [decide_eq_true rfl]
  obtain ⟨m0, m1, m2, m3, mf⟩ := four_cells ZM.out
  go_wp2_with fail
  ((with_reducible refine (H10.heldBlock f p.el p.tag _ _ _ _ _ 1 _ OP.out.ints (by omega) (by omega) (by omega)).mono ?_); rintro e w29 ⟨rfl, hb⟩)
  replace IA := Lib.hid (IA.out.below hb (Nat.le_refl _))
  replace IB := Lib.hid (IB.out.below hb (Nat.le_refl _))
  replace LS := Lib.hid (LS.out.below hb (Nat.le_refl _))
  replace ZS := Lib.hid (ZS.out.below hb (Nat.le_refl _))
  replace ZM := Lib.hid (ZM.out.below hb (Nat.le_refl _))
  replace OP := Lib.hid (OP.out.below hb (Nat.le_refl _))
  replace OQ := Lib.hid (OQ.out.below hb (Nat.le_refl _))
  replace OVa := Lib.hid (OVa.out.below hb (Nat.le_refl _))
  replace OVb := Lib.hid (OVb.out.below hb (Nat.le_refl _))
  replace LH := Lib.hid (LH.out.below hb (Nat.le_refl _))
  replace ZH := Lib.hid (ZH.out.below hb (Nat.le_refl _))
  replace B := Lib.hid (B.out.trans (hb.mono B.out.size))
  have z29 := hb.size
  clear hb
  clear m0 m1 m2 m3 mf
  go_wp2_with fail
  ((with_reducible refine (Hlp.heldIntS _ _ _ _ _ (1 + (p.hd.length : Int)) _ OQ.out.ints (by omega) (by omega) (by omega)).mono ?_); rintro e w' ⟨rfl, rfl⟩)
  go_wp2
  go_ret
  exact ⟨rfl, B.out⟩

set_option maxRecDepth 20000 in
set_option maxHeartbeats 2000000 in
theorem fnExactReplyFill (f el tag : Int) (hd ls : List Int) (A : Option Addr) (c : Nat) (A2 : Option Addr) (n2 c2 : Nat) (w : World) (hx : Ints 0 w.heap.size w A hd.length c hd) (hx2 : Ints 0 w.heap.size w A2 n2 c2 ls) :
    Calls Try.prog 11 #[.agg #[.int .i64 f, .int .i64 el, .slice A hd.length c, .int .i64 tag], .slice A2 n2 c2] w (TruePost w) := by
  have l2 := hx2.len_
  have hcm := hx.2.2.1
  have hcc := hx.2.1
  have IA := Lib.hid hx
  have IB := Lib.hid hx2
  clear hx hx2
  have B : Hid (Below w.heap.size w w) := Below.refl _ _
  by_cases q2 : 1048576 < n2
  · obtain ⟨zz, -, hb⟩ := one_blk w #[.int .i64 f, .int .i64 el, .slice A hd.length c, .int .i64 tag] 68
    go_enter Try.func11, Try.ntmps11
    go_wp2
    go_ret
    exact ⟨rfl, hb⟩
  have r2 : ls.length ≤ 1048576 := by omega
  clear l2
  have hnm : hd.length ≤ maxLen := Nat.le_trans hcc hcm
  go_enter Try.func11, Try.ntmps11
  have hal : Below w.heap.size w (w.alloc (.cells #[.int .i64 f, .int .i64 el, .slice A hd.length c, .int .i64 tag] 68)) := (Below.refl _ _).alloc (Nat.le_refl _) _
  have hzz : Blk (w.alloc (.cells #[.int .i64 f, .int .i64 el, .slice A hd.length c, .int .i64 tag] 68)) w.heap.size #[.int .i64 f, .int .i64 el, .slice A hd.length c, .int .i64 tag] 68 := heap_alloc_new _ _
  replace IA := Lib.hid (IA.out.below hal (Nat.le_refl _))
  replace IB := Lib.hid (IB.out.below hal (Nat.le_refl _))
  replace B := Lib.hid (B.out.trans (hal.mono B.out.size))
  have ZA := Lib.hid hzz
  clear hzz
  clear hal
  have hza : w.heap.size < (w.alloc (.cells #[.int .i64 f, .int .i64 el, .slice A hd.length c, .int .i64 tag] 68)).heap.size := by simp
  obtain ⟨k0, k1, k2, k3, kf⟩ := four_cells ZA.out
  go_wp2_with fail
  ((with_reducible refine (H10.szBlock f el tag A hd.length c _ hnm).mono ?_); rintro e w2 ⟨rfl, hb⟩)
  replace IA := Lib.hid (IA.out.below hb (Nat.le_refl _))
  replace IB := Lib.hid (IB.out.below hb (Nat.le_refl _))
  replace ZA := Lib.hid (ZA.out.below hb (Nat.le_refl _))
  replace B := Lib.hid (B.out.trans (hb.mono B.out.size))
  have z2 := hb.size
  clear hb
  clear k0 k1 k2 k3 kf
  by_cases q1 : (hd.length : Int) ≤ 1048576
  rotate_left
  · rw [if_neg q1]
    clear q1
    go_wp2
    go_ret
    exact ⟨rfl, B.out⟩
  rw [if_pos q1]
  have r1 : hd.length ≤ 1048576 := by omega
  have hl0 : decide ((1048576 : Int) - (hd.length : Int) < 0) = false := by simp; omega
  obtain ⟨hp1, hp2⟩ := @fill_lens f el tag hd ls
  clear q1 hnm hcm hcc
  obtain ⟨k0, k1, k2, k3, kf⟩ := four_cells ZA.out
  go_wp2_with fail
  ((with_reducible refine (H10.toBlock f el tag hd A c _ _ _ IA.out r1).mono ?_); rintro e w3 ⟨ATa, cTa, rfl, ho, hb⟩)
  replace IA := Lib.hid (IA.out.below hb (Nat.le_refl _))
  replace IB := Lib.hid (IB.out.below hb (Nat.le_refl _))
  replace ZA := Lib.hid (ZA.out.below hb (Nat.le_refl _))
  replace B := Lib.hid (B.out.trans (hb.mono B.out.size))
  have z3 := hb.size
  have OTa := Lib.hid ho
  clear ho hb
  clear k0 k1 k2 k3 kf
  go_wp2_with fail
  ((with_reducible refine (Hlp.toIntS _ _ _ _ _ ls _ IB.out (by omega)).mono ?_); rintro e w4 ⟨ATb, cTb, rfl, ho, hb⟩)
  replace IA := Lib.hid (IA.out.below hb (Nat.le_refl _))
  replace IB := Lib.hid (IB.out.below hb (Nat.le_refl _))
  replace ZA := Lib.hid (ZA.out.below hb (Nat.le_refl _))
  replace OTa := Lib.hid (OTa.out.below hb (Nat.le_refl _))
  replace B := Lib.hid (B.out.trans (hb.mono B.out.size))
  have z4 := hb.size
  have OTb := Lib.hid ho
  clear ho hb
  go_wp2_with fail
  ((with_reducible refine (Sp10.ReplyFill f el tag hd ls _ _ _ _ _ _ _ _ _ _ _ OTa.out.ints (by omega) OTb.out.ints).mono ?_); rintro e w5 ⟨AS, cs, BS, ds, g3, g4, rfl, hlie, hg3, hg4, hb⟩)
  replace IA := Lib.hid (IA.out.below hb (Nat.le_refl _))
  replace IB := Lib.hid (IB.out.below hb (Nat.le_refl _))
  replace ZA := Lib.hid (ZA.out.below hb (Nat.le_refl _))
  replace OTa := Lib.hid (OTa.out.below hb (Nat.le_refl _))
  replace OTb := Lib.hid (OTb.out.below hb (Nat.le_refl _))
  replace B := Lib.hid (B.out.trans (hb.mono B.out.size))
  have z5 := hb.size
  have LS := Lib.hid hlie
  clear hlie hb
  obtain ⟨t3, t4⟩ := lies_lt LS.out
  have T3 := Lib.hid t3
  have T4 := Lib.hid t4
  clear t3 t4
  generalize hpe : fillR f el hd tag ls = p at *
  have HPE := Lib.hid hpe
  clear hpe
  have hal : Below w5.heap.size w5 (w5.alloc (.cells #[.int .i64 p.el, .slice AS p.hd.length cs, .int .i64 p.tag, .slice BS p.bd.length ds] 39)) := (Below.refl _ _).alloc (Nat.le_refl _) _
  have hzz : Blk (w5.alloc (.cells #[.int .i64 p.el, .slice AS p.hd.length cs, .int .i64 p.tag, .slice BS p.bd.length ds] 39)) w5.heap.size #[.int .i64 p.el, .slice AS p.hd.length cs, .int .i64 p.tag, .slice BS p.bd.length ds] 39 := heap_alloc_new _ _
  replace IA := Lib.hid (IA.out.below hal (Nat.le_refl _))
  replace IB := Lib.hid (IB.out.below hal (Nat.le_refl _))
  replace ZA := Lib.hid (ZA.out.below hal (Nat.le_refl _))
  replace OTa := Lib.hid (OTa.out.below hal (Nat.le_refl _))
  replace OTb := Lib.hid (OTb.out.below hal (Nat.le_refl _))
  replace LS := Lib.hid (LS.out.below hal (Nat.le_refl _))
  replace B := Lib.hid (B.out.trans (hal.mono B.out.size))
  have ZS := Lib.hid hzz
  clear hzz
  clear hal
  have hzs : w5.heap.size < (w5.alloc (.cells #[.int .i64 p.el, .slice AS p.hd.length cs, .int .i64 p.tag, .slice BS p.bd.length ds] 39)).heap.size := by simp
  clear OTa OTb
  obtain ⟨k0, k1, k2, k3, kf⟩ := four_cells ZA.out
  go_wp2_with fail
  ((with_reducible refine (H10.toBlock f el tag hd A c _ _ _ IA.out r1).mono ?_); rintro e w7 ⟨AXa, cXa, rfl, ho, hb⟩)
  replace IA := Lib.hid (IA.out.below hb (Nat.le_refl _))
  replace IB := Lib.hid (IB.out.below hb (Nat.le_refl _))
  replace ZA := Lib.hid (ZA.out.below hb (Nat.le_refl _))
  replace LS := Lib.hid (LS.out.below hb (Nat.le_refl _))
  replace ZS := Lib.hid (ZS.out.below hb (Nat.le_refl _))
  replace B := Lib.hid (B.out.trans (hb.mono B.out.size))
  have z7 := hb.size
  have OXa := Lib.hid ho
  clear ho hb
  clear k0 k1 k2 k3 kf
  have hal : Below w7.heap.size w7 (w7.alloc (.cells #[.int .i64 f, .int .i64 el, .slice AXa hd.length cXa, .int .i64 tag] 27)) := (Below.refl _ _).alloc (Nat.le_refl _) _
  have hzz : Blk (w7.alloc (.cells #[.int .i64 f, .int .i64 el, .slice AXa hd.length cXa, .int .i64 tag] 27)) w7.heap.size #[.int .i64 f, .int .i64 el, .slice AXa hd.length cXa, .int .i64 tag] 27 := heap_alloc_new _ _
  replace IA := Lib.hid (IA.out.below hal (Nat.le_refl _))
  replace IB := Lib.hid (IB.out.below hal (Nat.le_refl _))
  replace ZA := Lib.hid (ZA.out.below hal (Nat.le_refl _))
  replace LS := Lib.hid (LS.out.below hal (Nat.le_refl _))
  replace ZS := Lib.hid (ZS.out.below hal (Nat.le_refl _))
  replace OXa := Lib.hid (OXa.out.below hal (Nat.le_refl _))
  replace B := Lib.hid (B.out.trans (hal.mono B.out.size))
  have ZX := Lib.hid hzz
  clear hzz
  clear hal
  have hzx : w7.heap.size < (w7.alloc (.cells #[.int .i64 f, .int .i64 el, .slice AXa hd.length cXa, .int .i64 tag] 27)).heap.size := by simp
  go_wp2_with fail
  ((with_reducible refine (Hlp.toIntS _ _ _ _ _ ls _ IB.out (by omega)).mono ?_); rintro e w9 ⟨AXb, cXb, rfl, ho, hb⟩)
  replace IA := Lib.hid (IA.out.below hb (Nat.le_refl _))
  replace IB := Lib.hid (IB.out.below hb (Nat.le_refl _))
  replace ZA := Lib.hid (ZA.out.below hb (Nat.le_refl _))
  replace LS := Lib.hid (LS.out.below hb (Nat.le_refl _))
  replace ZS := Lib.hid (ZS.out.below hb (Nat.le_refl _))
  replace OXa := Lib.hid (OXa.out.below hb (Nat.le_refl _))
  replace ZX := Lib.hid (ZX.out.below hb (Nat.le_refl _))
  replace B := Lib.hid (B.out.trans (hb.mono B.out.size))
  have z9 := hb.size
  have OXb := Lib.hid ho
  clear ho hb
  obtain ⟨x0, x1, x2, x3, xf⟩ := four_cells ZX.out
  go_wp2_with fail
  ((with_reducible refine (Im10.ReplyFill f el tag hd ls _ _ _ _ _ _ _ _ _ _ _ OXa.out.ints (by omega) OXb.out.ints).mono ?_); rintro e w10 ⟨AM, cm, BM, dm, g1, g2, rfl, hlie, hg1, hg2, hb⟩)
  replace IA := Lib.hid (IA.out.below hb (Nat.le_refl _))
  replace IB := Lib.hid (IB.out.below hb (Nat.le_refl _))
  replace ZA := Lib.hid (ZA.out.below hb (Nat.le_refl _))
  replace LS := Lib.hid (LS.out.below hb (Nat.le_refl _))
  replace ZS := Lib.hid (ZS.out.below hb (Nat.le_refl _))
  replace OXa := Lib.hid (OXa.out.below hb (Nat.le_refl _))
  replace ZX := Lib.hid (ZX.out.below hb (Nat.le_refl _))
  replace OXb := Lib.hid (OXb.out.below hb (Nat.le_refl _))
  replace B := Lib.hid (B.out.trans (hb.mono B.out.size))
  have z10 := hb.size
  have LM := Lib.hid hlie
  clear hlie hb
  clear x0 x1 x2 x3 xf
  rw [HPE.out] at LM ⊢
  obtain ⟨t1, t2⟩ := lies_lt LM.out
  have T1 := Lib.hid t1
  have T2 := Lib.hid t2
  clear t1 t2
  have hal : Below w10.heap.size w10 (w10.alloc (.cells #[.int .i64 p.el, .slice AM p.hd.length cm, .int .i64 p.tag, .slice BM p.bd.length dm] 39)) := (Below.refl _ _).alloc (Nat.le_refl _) _
  have hzz : Blk (w10.alloc (.cells #[.int .i64 p.el, .slice AM p.hd.length cm, .int .i64 p.tag, .slice BM p.bd.length dm] 39)) w10.heap.size #[.int .i64 p.el, .slice AM p.hd.length cm, .int .i64 p.tag, .slice BM p.bd.length dm] 39 := heap_alloc_new _ _
  replace IA := Lib.hid (IA.out.below hal (Nat.le_refl _))
  replace IB := Lib.hid (IB.out.below hal (Nat.le_refl _))
  replace ZA := Lib.hid (ZA.out.below hal (Nat.le_refl _))
  replace LS := Lib.hid (LS.out.below hal (Nat.le_refl _))
  replace ZS := Lib.hid (ZS.out.below hal (Nat.le_refl _))
  replace OXa := Lib.hid (OXa.out.below hal (Nat.le_refl _))
  replace ZX := Lib.hid (ZX.out.below hal (Nat.le_refl _))
  replace OXb := Lib.hid (OXb.out.below hal (Nat.le_refl _))
  replace LM := Lib.hid (LM.out.below hal (Nat.le_refl _))
  replace B := Lib.hid (B.out.trans (hal.mono B.out.size))
  have ZM := Lib.hid hzz
  clear hzz
  clear hal
  have hzm : w10.heap.size < (w10.alloc (.cells #[.int .i64 p.el, .slice AM p.hd.length cm, .int .i64 p.tag, .slice BM p.bd.length dm] 39)).heap.size := by simp
  obtain ⟨m0, m1, m2, m3, mf⟩ := four_cells ZM.out
  obtain ⟨s0, s1, s2, s3, sf⟩ := four_cells ZS.out
  go_wp2_with fail
  ((with_reducible refine (eqPacket p _ _ _ _ _ _ _ _ _ _ _ _ _ _ _ _ _ LM.out.hdr.ints LM.out.bdy.ints LS.out.hdr.ints LS.out.bdy.ints).mono ?_); rintro e w12 ⟨rfl, hb⟩)
  replace IA := Lib.hid (IA.out.below hb (Nat.le_refl _))
  replace IB := Lib.hid (IB.out.below hb (Nat.le_refl _))
  replace ZA := Lib.hid (ZA.out.below hb (Nat.le_refl _))
  replace LS := Lib.hid (LS.out.below hb (Nat.le_refl _))
  replace ZS := Lib.hid (ZS.out.below hb (Nat.le_refl _))
  replace OXa := Lib.hid (OXa.out.below hb (Nat.le_refl _))
  replace ZX := Lib.hid (ZX.out.below hb (Nat.le_refl _))
  replace OXb := Lib.hid (OXb.out.below hb (Nat.le_refl _))
  replace LM := Lib.hid (LM.out.below hb (Nat.le_refl _))
  replace ZM := Lib.hid (ZM.out.below hb (Nat.le_refl _))
  replace B := Lib.hid (B.out.trans (hb.mono B.out.size))
  have z12 := hb.size
  clear hb
  clear m0 m1 m2 m3 mf s0 s1 s2 s3 sf
  obtain ⟨x0, x1, x2, x3, xf⟩ := four_cells ZX.out
  obtain ⟨k0, k1, k2, k3, kf⟩ := four_cells ZA.out
  have lX : w7.heap.size < w12.heap.size := (Array.getElem?_eq_some_iff.1 ZX.out).1
  have lA : w.heap.size < w12.heap.size := (Array.getElem?_eq_some_iff.1 ZA.out).1
  have HS : Hid (∀ W', Below w12.heap.size w12 W' → (W'.cell? ⟨w7.heap.size, 0, none⟩ = some (.int .i64 f) ∧ W'.cell? ⟨w7.heap.size, 1, none⟩ = some (.int .i64 el) ∧ W'.cell? ⟨w7.heap.size, 2, none⟩ = some (.slice AXa hd.length cXa) ∧ W'.cell? ⟨w7.heap.size, 3, none⟩ = some (.int .i64 tag) ∧ W'.cell? ⟨w.heap.size, 0, none⟩ = some (.int .i64 f) ∧ W'.cell? ⟨w.heap.size, 1, none⟩ = some (.int .i64 el) ∧ W'.cell? ⟨w.heap.size, 2, none⟩ = some (.slice A hd.length c) ∧ W'.cell? ⟨w.heap.size, 3, none⟩ = some (.int .i64 tag))) := fun W' hb => ⟨(hb.cell (p := ⟨w7.heap.size, 0, none⟩) lX).trans x0, (hb.cell (p := ⟨w7.heap.size, 1, none⟩) lX).trans x1, (hb.cell (p := ⟨w7.heap.size, 2, none⟩) lX).trans x2, (hb.cell (p := ⟨w7.heap.size, 3, none⟩) lX).trans x3, (hb.cell (p := ⟨w.heap.size, 0, none⟩) lA).trans k0, (hb.cell (p := ⟨w.heap.size, 1, none⟩) lA).trans k1, (hb.cell (p := ⟨w.heap.size, 2, none⟩) lA).trans k2, (hb.cell (p := ⟨w.heap.size, 3, none⟩) lA).trans k3⟩
  have DD : Hid (Below w12.heap.size w12 w12.drew) := bdr (Below.refl _ _)
  have S0 := Lib.hid (HS.out w12.drew DD.out)
  have RD : Hid (Ints 0 w.heap.size w12.drew A hd.length c hd) := IA.out
  clear x0 x1 x2 x3 xf k0 k1 k2 k3 kf
  go_upto_region 13 with (fail)
  go_region_held3 (fun w' => (w'.cell? ⟨w7.heap.size, 0, none⟩ = some (.int .i64 f) ∧ w'.cell? ⟨w7.heap.size, 1, none⟩ = some (.int .i64 el) ∧ w'.cell? ⟨w7.heap.size, 2, none⟩ = some (.slice AXa hd.length cXa) ∧ w'.cell? ⟨w7.heap.size, 3, none⟩ = some (.int .i64 tag) ∧ w'.cell? ⟨w.heap.size, 0, none⟩ = some (.int .i64 f) ∧ w'.cell? ⟨w.heap.size, 1, none⟩ = some (.int .i64 el) ∧ w'.cell? ⟨w.heap.size, 2, none⟩ = some (.slice A hd.length c) ∧ w'.cell? ⟨w.heap.size, 3, none⟩ = some (.int .i64 tag)))
    (first | with_reducible exact S0.out | with_reducible exact s8 | with_reducible exact s9 | fail)
    (first
      | (go_at_call 38; (with_reducible refine (H10.eqBlock f el tag hd _ _ _ _ _ _ _ _ _ _ _ MX8.out M9.out).mono ?_); rintro e wq9 ⟨rfl, hb9⟩; have s9 := HS.out wq9 ((DD.out.trans (hb8.mono DD.out.size)).trans (hb9.mono (Nat.le_trans DD.out.size hb8.size))))
      | (go_at_call 45; (with_reducible refine (H10.toBlock f el tag hd A c _ _ _ RD.out r1).mono ?_); rintro e wq8 ⟨A9, k9, rfl, ho9, hb8⟩; have s8 := HS.out wq8 (DD.out.trans (hb8.mono DD.out.size)); have M9 := Lib.hid ho9.ints; have MX8 := Lib.hid (OXa.out.ints.below (DD.out.trans (hb8.mono DD.out.size)) (Nat.le_refl _)))
      | fail)
  have hbq : Below w12.heap.size w12 wq9 := (DD.out.trans (hb8.mono DD.out.size)).trans (hb9.mono (Nat.le_trans DD.out.size hb8.size))
  replace IA := Lib.hid (IA.out.below hbq (Nat.le_refl _))
  replace IB := Lib.hid (IB.out.below hbq (Nat.le_refl _))
  replace ZA := Lib.hid (ZA.out.below hbq (Nat.le_refl _))
  replace LS := Lib.hid (LS.out.below hbq (Nat.le_refl _))
  replace ZS := Lib.hid (ZS.out.below hbq (Nat.le_refl _))
  replace OXa := Lib.hid (OXa.out.below hbq (Nat.le_refl _))
  replace ZX := Lib.hid (ZX.out.below hbq (Nat.le_refl _))
  replace OXb := Lib.hid (OXb.out.below hbq (Nat.le_refl _))
  replace LM := Lib.hid (LM.out.below hbq (Nat.le_refl _))
  replace ZM := Lib.hid (ZM.out.below hbq (Nat.le_refl _))
  replace B := Lib.hid (B.out.trans (hbq.mono B.out.size))
  have zq := hbq.size
  clear hbq hb8 hb9 s8 s9 S0 HS RD DD MX8 M9 ho9 lX lA
  go_wp2_with fail
  ((with_reducible refine (Hlp.toIntS _ _ _ _ _ ls _ IB.out (by omega)).mono ?_); rintro e w13 ⟨AUb, cUb, rfl, ho, hb⟩)
  replace IA := Lib.hid (IA.out.below hb (Nat.le_refl _))
  replace IB := Lib.hid (IB.out.below hb (Nat.le_refl _))
  replace ZA := Lib.hid (ZA.out.below hb (Nat.le_refl _))
  replace LS := Lib.hid (LS.out.below hb (Nat.le_refl _))
  replace ZS := Lib.hid (ZS.out.below hb (Nat.le_refl _))
  replace OXa := Lib.hid (OXa.out.below hb (Nat.le_refl _))
  replace ZX := Lib.hid (ZX.out.below hb (Nat.le_refl _))
  replace OXb := Lib.hid (OXb.out.below hb (Nat.le_refl _))
  replace LM := Lib.hid (LM.out.below hb (Nat.le_refl _))
  replace ZM := Lib.hid (ZM.out.below hb (Nat.le_refl _))
  replace B := Lib.hid (B.out.trans (hb.mono B.out.size))
  have z13 := hb.size
  have OUb := Lib.hid ho
  clear ho hb
  go_wp2_with fail
  ((with_reducible refine (Hlp.eqIntS _ _ _ _ _ _ _ _ _ _ _ _ _ OXb.out.ints OUb.out.ints).mono ?_); rintro e w14 ⟨rfl, hd⟩)
  have hb0 := drew_below hd
  clear hd
  replace IA := Lib.hid (IA.out.below hb0 (Nat.le_refl _))
  replace IB := Lib.hid (IB.out.below hb0 (Nat.le_refl _))
  replace ZA := Lib.hid (ZA.out.below hb0 (Nat.le_refl _))
  replace LS := Lib.hid (LS.out.below hb0 (Nat.le_refl _))
  replace ZS := Lib.hid (ZS.out.below hb0 (Nat.le_refl _))
  replace OXa := Lib.hid (OXa.out.below hb0 (Nat.le_refl _))
  replace ZX := Lib.hid (ZX.out.below hb0 (Nat.le_refl _))
  replace OXb := Lib.hid (OXb.out.below hb0 (Nat.le_refl _))
  replace LM := Lib.hid (LM.out.below hb0 (Nat.le_refl _))
  replace ZM := Lib.hid (ZM.out.below hb0 (Nat.le_refl _))
  replace OUb := Lib.hid (OUb.out.below hb0 (Nat.le_refl _))
  replace B := Lib.hid (B.out.trans (hb0.mono B.out.size))
  have z14 := hb0.size
  clear hb0
  rw [decide_eq_true rfl]
  clear OUb
  obtain ⟨x0, x1, x2, x3, xf⟩ := four_cells ZX.out
  go_wp2_with fail
  ((with_reducible refine (H10.markBlock f el tag _ _ _ _ _ hd 1 _ OXa.out (by omega) (by omega) (by omega)).mono ?_); rintro e w15 ⟨rfl, hm, k1, k2, k3, k4, k5⟩)
  clear x0 x1 x2 x3 xf
  have hkb : ∀ x, x < w14.heap.size → x < _ ∨ _ ≤ x → w15.heap[x]? = w14.heap[x]? := k5
  replace IA := Lib.hid (IA.out.keep k4 fun x q1 q2 q3 => k5 x q3 (by omega))
  replace IB := Lib.hid (IB.out.keep k4 fun x q1 q2 q3 => k5 x q3 (by omega))
  replace ZA := Lib.hid ((hkb _ (Array.getElem?_eq_some_iff.1 ZA.out).1 (by omega)).trans ZA.out)
  replace LS := Lib.hid (lies_keepC LS.out k4 (fun h => k5 _ (T3.out h |> fun q => by omega) (by have := T3.out h; omega)) (fun h => k5 _ (by have := T4.out h; omega) (by have := T4.out h; omega)))
  replace ZS := Lib.hid ((hkb _ (Array.getElem?_eq_some_iff.1 ZS.out).1 (by omega)).trans ZS.out)
  replace ZX := Lib.hid ((hkb _ (Array.getElem?_eq_some_iff.1 ZX.out).1 (by omega)).trans ZX.out)
  replace OXb := Lib.hid (OXb.out.keep k4 fun x q1 q2 q3 => k5 x q3 (by omega))
  replace LM := Lib.hid (lies_keepC LM.out k4 (fun h => k5 _ (by have := T1.out h; omega) (by omega)) (fun h => k5 _ (by have := T2.out h; omega) (by omega)))
  replace ZM := Lib.hid ((hkb _ (Array.getElem?_eq_some_iff.1 ZM.out).1 (by omega)).trans ZM.out)
  have hBs := B.out.size
  replace B : Hid (Below w.heap.size w w15) := ⟨k1.trans B.out.os, k2.trans B.out.tape, k3.trans B.out.output, Nat.le_trans hBs k4, fun x hx => (k5 x (by omega) (by omega)).trans (B.out.block x hx)⟩
  replace OXa := Lib.hid hm
  have z15 := k4
  clear hm k1 k2 k3 k4 k5 hkb hBs
  go_wp2_with fail
  ((with_reducible refine (Hlp.markIntS _ _ _ _ _ _ _ _ OXb.out (by omega) (by omega) (by omega)).mono ?_); rintro e w16 ⟨rfl, hm, hk⟩)
  replace IA := Lib.hid (IA.out.kept hk (by omega))
  replace IB := Lib.hid (IB.out.kept hk (by omega))
  replace ZA := Lib.hid (blk_kept ZA.out hk (by omega))
  replace LS := Lib.hid (lies_keptC LS.out hk (fun h => by have := T3.out h; omega) (fun h => by have := T4.out h; omega))
  replace ZS := Lib.hid (blk_kept ZS.out hk (by omega))
  replace OXa := Lib.hid (OXa.out.kept hk (by omega))
  replace ZX := Lib.hid (blk_kept ZX.out hk (by omega))
  replace LM := Lib.hid (lies_keptC LM.out hk (fun h => by have := T1.out h; omega) (fun h => by have := T2.out h; omega))
  replace ZM := Lib.hid (blk_kept ZM.out hk (by omega))
  replace B := Lib.hid (B.out.trans (hk.below (by omega)))
  replace OXb := Lib.hid hm
  have z16 := Nat.le_of_eq hk.size.symm
  have y16 := Nat.le_of_eq hk.size
  clear hm hk
  obtain ⟨m0, m1, m2, m3, mf⟩ := four_cells ZM.out
  obtain ⟨s0, s1, s2, s3, sf⟩ := four_cells ZS.out
  go_wp2_with fail
  ((with_reducible refine (eqPacket p _ _ _ _ _ _ _ _ _ _ _ _ _ _ _ _ _ LM.out.hdr.ints LM.out.bdy.ints LS.out.hdr.ints LS.out.bdy.ints).mono ?_); rintro e w17 ⟨rfl, hb⟩)
  replace IA := Lib.hid (IA.out.below hb (Nat.le_refl _))
  replace IB := Lib.hid (IB.out.below hb (Nat.le_refl _))
  replace ZA := Lib.hid (ZA.out.below hb (Nat.le_refl _))
  replace LS := Lib.hid (LS.out.below hb (Nat.le_refl _))
  replace ZS := Lib.hid (ZS.out.below hb (Nat.le_refl _))
  replace OXa := Lib.hid (OXa.out.below hb (Nat.le_refl _))
  replace ZX := Lib.hid (ZX.out.below hb (Nat.le_refl _))
  replace OXb := Lib.hid (OXb.out.below hb (Nat.le_refl _))
  replace LM := Lib.hid (LM.out.below hb (Nat.le_refl _))
  replace ZM := Lib.hid (ZM.out.below hb (Nat.le_refl _))
  replace B := Lib.hid (B.out.trans (hb.mono B.out.size))
  have z17 := hb.size
  clear hb
  clear m0 m1 m2 m3 mf s0 s1 s2 s3 sf
  clear OXa OXb ZX
  have hne := LM.out.2.2
  have hBs := B.out.size
  obtain ⟨m0, m1, m2, m3, mf⟩ := four_cells ZM.out
  go_wp2_with fail
  ((with_reducible refine (markPacket _ _ _ _ _ _ _ _ _ _ _ _ 1 _ LM.out.hdr LM.out.bdy hne (by omega) (by omega) (by omega) (by omega)).mono ?_); rintro e w18 ⟨rfl, mk1, mk2, hk⟩)
  clear m0 m1 m2 m3 mf
  replace IA := Lib.hid (ints_kept2 IA.out hk (fun _ => by omega) (fun _ => by omega))
  replace IB := Lib.hid (ints_kept2 IB.out hk (fun _ => by omega) (fun _ => by omega))
  replace LS := Lib.hid (lies_kept2 LS.out hk (fun h => by have := T3.out h; omega) (fun h => by have := T4.out h; omega))
  replace ZS := Lib.hid (blk_kept2 ZS.out hk (fun _ => by omega) (fun _ => by omega))
  replace ZA := Lib.hid (blk_kept2 ZA.out hk (fun _ => by omega) (fun _ => by omega))
  replace ZM := Lib.hid (blk_kept2 ZM.out hk (fun h => by have := T1.out h; omega) (fun h => by have := T2.out h; omega))
  replace B := Lib.hid (below_kept2 B.out hk hBs (by omega) (by omega))
  have OP := Lib.hid mk1
  have OQ := Lib.hid mk2
  have z18 := hk.size
  clear mk1 mk2 hk LM hne hBs
  obtain ⟨m0, m1, m2, m3, mf⟩ := four_cells ZM.out
  go_wp2_with fail
  ((with_reducible refine (heldPacket _ _ _ _ _ _ _ _ _ _ _ _ 1 _ OP.out.ints OQ.out.ints (by omega) (by omega) (by omega) (by omega)).mono ?_); rintro e w19 ⟨rfl, hb⟩)
  replace IA := Lib.hid (IA.out.below hb (Nat.le_refl _))
  replace IB := Lib.hid (IB.out.below hb (Nat.le_refl _))
  replace ZA := Lib.hid (ZA.out.below hb (Nat.le_refl _))
  replace LS := Lib.hid (LS.out.below hb (Nat.le_refl _))
  replace ZS := Lib.hid (ZS.out.below hb (Nat.le_refl _))
  replace ZM := Lib.hid (ZM.out.below hb (Nat.le_refl _))
  replace OP := Lib.hid (OP.out.below hb (Nat.le_refl _))
  replace OQ := Lib.hid (OQ.out.below hb (Nat.le_refl _))
  replace B := Lib.hid (B.out.trans (hb.mono B.out.size))
  have z19 := hb.size
  clear hb
  clear m0 m1 m2 m3 mf
  obtain ⟨k0, k1, k2, k3, kf⟩ := four_cells ZA.out
  go_wp2_with fail
  ((with_reducible refine (H10.toBlock f el tag hd A c _ _ _ IA.out r1).mono ?_); rintro e w20 ⟨AVa, cVa, rfl, ho, hb⟩)
  replace IA := Lib.hid (IA.out.below hb (Nat.le_refl _))
  replace IB := Lib.hid (IB.out.below hb (Nat.le_refl _))
  replace ZA := Lib.hid (ZA.out.below hb (Nat.le_refl _))
  replace LS := Lib.hid (LS.out.below hb (Nat.le_refl _))
  replace ZS := Lib.hid (ZS.out.below hb (Nat.le_refl _))
  replace ZM := Lib.hid (ZM.out.below hb (Nat.le_refl _))
  replace OP := Lib.hid (OP.out.below hb (Nat.le_refl _))
  replace OQ := Lib.hid (OQ.out.below hb (Nat.le_refl _))
  replace B := Lib.hid (B.out.trans (hb.mono B.out.size))
  have z20 := hb.size
  have OVa := Lib.hid ho
  clear ho hb
  clear k0 k1 k2 k3 kf
  go_wp2_with fail
  ((with_reducible refine (Hlp.toIntS _ _ _ _ _ ls _ IB.out (by omega)).mono ?_); rintro e w21 ⟨AVb, cVb, rfl, ho, hb⟩)
  replace IA := Lib.hid (IA.out.below hb (Nat.le_refl _))
  replace IB := Lib.hid (IB.out.below hb (Nat.le_refl _))
  replace ZA := Lib.hid (ZA.out.below hb (Nat.le_refl _))
  replace LS := Lib.hid (LS.out.below hb (Nat.le_refl _))
  replace ZS := Lib.hid (ZS.out.below hb (Nat.le_refl _))
  replace ZM := Lib.hid (ZM.out.below hb (Nat.le_refl _))
  replace OP := Lib.hid (OP.out.below hb (Nat.le_refl _))
  replace OQ := Lib.hid (OQ.out.below hb (Nat.le_refl _))
  replace OVa := Lib.hid (OVa.out.below hb (Nat.le_refl _))
  replace B := Lib.hid (B.out.trans (hb.mono B.out.size))
  have z21 := hb.size
  have OVb := Lib.hid ho
  clear ho hb
  go_wp2_with fail
  ((with_reducible refine (Im10.ReplyFill f el tag hd ls _ _ _ _ _ _ _ _ _ _ _ OVa.out.ints (by omega) OVb.out.ints).mono ?_); rintro e w22 ⟨AH, ch, BH, dh, g5, g6, rfl, hlie, hg5, hg6, hb⟩)
  replace IA := Lib.hid (IA.out.below hb (Nat.le_refl _))
  replace IB := Lib.hid (IB.out.below hb (Nat.le_refl _))
  replace ZA := Lib.hid (ZA.out.below hb (Nat.le_refl _))
  replace LS := Lib.hid (LS.out.below hb (Nat.le_refl _))
  replace ZS := Lib.hid (ZS.out.below hb (Nat.le_refl _))
  replace ZM := Lib.hid (ZM.out.below hb (Nat.le_refl _))
  replace OP := Lib.hid (OP.out.below hb (Nat.le_refl _))
  replace OQ := Lib.hid (OQ.out.below hb (Nat.le_refl _))
  replace OVa := Lib.hid (OVa.out.below hb (Nat.le_refl _))
  replace OVb := Lib.hid (OVb.out.below hb (Nat.le_refl _))
  replace B := Lib.hid (B.out.trans (hb.mono B.out.size))
  have z22 := hb.size
  have LH := Lib.hid hlie
  clear hlie hb
  rw [HPE.out] at LH ⊢
  have hal : Below w22.heap.size w22 (w22.alloc (.cells #[.int .i64 p.el, .slice AH p.hd.length ch, .int .i64 p.tag, .slice BH p.bd.length dh] 39)) := (Below.refl _ _).alloc (Nat.le_refl _) _
  have hzz : Blk (w22.alloc (.cells #[.int .i64 p.el, .slice AH p.hd.length ch, .int .i64 p.tag, .slice BH p.bd.length dh] 39)) w22.heap.size #[.int .i64 p.el, .slice AH p.hd.length ch, .int .i64 p.tag, .slice BH p.bd.length dh] 39 := heap_alloc_new _ _
  replace IA := Lib.hid (IA.out.below hal (Nat.le_refl _))
  replace IB := Lib.hid (IB.out.below hal (Nat.le_refl _))
  replace ZA := Lib.hid (ZA.out.below hal (Nat.le_refl _))
  replace LS := Lib.hid (LS.out.below hal (Nat.le_refl _))
  replace ZS := Lib.hid (ZS.out.below hal (Nat.le_refl _))
  replace ZM := Lib.hid (ZM.out.below hal (Nat.le_refl _))
  replace OP := Lib.hid (OP.out.below hal (Nat.le_refl _))
  replace OQ := Lib.hid (OQ.out.below hal (Nat.le_refl _))
  replace OVa := Lib.hid (OVa.out.below hal (Nat.le_refl _))
  replace OVb := Lib.hid (OVb.out.below hal (Nat.le_refl _))
  replace LH := Lib.hid (LH.out.below hal (Nat.le_refl _))
  replace B := Lib.hid (B.out.trans (hal.mono B.out.size))
  have ZH := Lib.hid hzz
  clear hzz
  clear hal
  obtain ⟨m0, m1, m2, m3, mf⟩ := four_cells ZH.out
  obtain ⟨s0, s1, s2, s3, sf⟩ := four_cells ZS.out
  go_wp2_with fail
  ((with_reducible refine (eqPacket p _ _ _ _ _ _ _ _ _ _ _ _ _ _ _ _ _ LH.out.hdr.ints LH.out.bdy.ints LS.out.hdr.ints LS.out.bdy.ints).mono ?_); rintro e w24 ⟨rfl, hb⟩)
  replace IA := Lib.hid (IA.out.below hb (Nat.le_refl _))
  replace IB := Lib.hid (IB.out.below hb (Nat.le_refl _))
  replace ZA := Lib.hid (ZA.out.below hb (Nat.le_refl _))
  replace LS := Lib.hid (LS.out.below hb (Nat.le_refl _))
  replace ZS := Lib.hid (ZS.out.below hb (Nat.le_refl _))
  replace ZM := Lib.hid (ZM.out.below hb (Nat.le_refl _))
  replace OP := Lib.hid (OP.out.below hb (Nat.le_refl _))
  replace OQ := Lib.hid (OQ.out.below hb (Nat.le_refl _))
  replace OVa := Lib.hid (OVa.out.below hb (Nat.le_refl _))
  replace OVb := Lib.hid (OVb.out.below hb (Nat.le_refl _))
  replace LH := Lib.hid (LH.out.below hb (Nat.le_refl _))
  replace ZH := Lib.hid (ZH.out.below hb (Nat.le_refl _))
  replace B := Lib.hid (B.out.trans (hb.mono B.out.size))
  have z24 := hb.size
  clear hb
  clear m0 m1 m2 m3 mf s0 s1 s2 s3 sf
  obtain ⟨m0, m1, m2, m3, mf⟩ := four_cells ZM.out
  go_wp2_with fail
  ((with_reducible refine (heldPacket _ _ _ _ _ _ _ _ _ _ _ _ 1 _ OP.out.ints OQ.out.ints (by omega) (by omega) (by omega) (by omega)).mono ?_); rintro e w25 ⟨rfl, hb⟩)
  replace IA := Lib.hid (IA.out.below hb (Nat.le_refl _))
  replace IB := Lib.hid (IB.out.below hb (Nat.le_refl _))
  replace ZA := Lib.hid (ZA.out.below hb (Nat.le_refl _))
  replace LS := Lib.hid (LS.out.below hb (Nat.le_refl _))
  replace ZS := Lib.hid (ZS.out.below hb (Nat.le_refl _))
  replace ZM := Lib.hid (ZM.out.below hb (Nat.le_refl _))
  replace OP := Lib.hid (OP.out.below hb (Nat.le_refl _))
  replace OQ := Lib.hid (OQ.out.below hb (Nat.le_refl _))
  replace OVa := Lib.hid (OVa.out.below hb (Nat.le_refl _))
  replace OVb := Lib.hid (OVb.out.below hb (Nat.le_refl _))
  replace LH := Lib.hid (LH.out.below hb (Nat.le_refl _))
  replace ZH := Lib.hid (ZH.out.below hb (Nat.le_refl _))
  replace B := Lib.hid (B.out.trans (hb.mono B.out.size))
  have z25 := hb.size
  clear hb
  clear m0 m1 m2 m3 mf
  go_wp2
  go_ret
  exact ⟨rfl, B.out⟩

end Law10x
end Go.Proofs.Ytljfhddgifacnaa
