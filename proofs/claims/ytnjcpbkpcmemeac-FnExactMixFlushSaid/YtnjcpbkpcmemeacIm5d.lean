/-
  Contracts of the program's chapter 5: valid packets, making a packet, peeling one.
-/
import Derived.Test.YtnjcpbkpcmemeacIm5c
import Derived.Laws.ResultCell
import Derived.BigQuiet
namespace Go.Proofs.Ytnjcpbkpcmemeac
open Go.RowKit
namespace Im5
open Il Gm Mm Tm Lm Pm Pn Pq Im2 Im3 Im4
open Sp5 (namesOk pathOk pathF pubs_in pubs_len)

set_option maxRecDepth 20000 in
theorem PacketValid (lo hi lo2 hi2 : Nat) (A B : Option Addr) (n c m d : Nat) (el tag : Int) (hd bd : List Int) (w : World) (hh : Ints lo hi w A n c hd) (hb : Ints lo2 hi2 w B m d bd) :
    Calls Try.prog 57 #[.agg #[.int .i64 el, .slice A n c, .int .i64 tag, .slice B m d]] w (BoolB (pktOk ⟨el, hd, tag, bd⟩) w) := by
  have hbA : Below w.heap.size w (w.alloc (.cells #[.int .i64 el, .slice A n c, .int .i64 tag, .slice B m d] 37)) := (Below.refl _ _).alloc (Nat.le_refl _) _
  have HH := Lib.hid (hh.below hbA (Nat.le_refl _))
  have HB := Lib.hid (hb.below hbA (Nat.le_refl _))
  have hc1 := hh.2.1
  have hc2 := hb.2.1
  have hc3 := hh.2.2.1
  have hc4 := hb.2.2.1
  unfold maxLen at hc3 hc4
  have L1 := Lib.hid hh.1
  have L2 := Lib.hid hb.1
  have BB := Lib.hid hbA
  clear hh hb hbA
  cases hg : inG el
  · have hv : pktOk ⟨el, hd, tag, bd⟩ = false := by
      cases h : pktOk ⟨el, hd, tag, bd⟩
      · rfl
      · obtain ⟨q1, q2, q3, q4, q5, q6⟩ := pktOk_iff.1 h
        dsimp only at q1 q2 q3 q4 q5 q6
        rw [hg] at q1; cases q1
    rw [hv]
    clear hv
    go_enter Try.func57, Try.ntmps57
    go_wp2_with fail
    ((with_reducible refine (inRange el _).mono ?_); rintro e w' ⟨rfl, rfl⟩)
    rw [hg]
    clear hg
    go_wp2
    go_ret
    exact ⟨rfl, BB.out⟩
  by_cases h9 : ¬ n = 9
  · have hv : pktOk ⟨el, hd, tag, bd⟩ = false := by
      cases h : pktOk ⟨el, hd, tag, bd⟩
      · rfl
      · obtain ⟨q1, q2, q3, q4, q5, q6⟩ := pktOk_iff.1 h
        dsimp only at q1 q2 q3 q4 q5 q6
        exact absurd (L1.out.symm.trans q3) h9
    rw [hv]
    clear hv
    have e9 : ((n : Int) == 9) = false := by simp; omega
    clear h9
    go_enter Try.func57, Try.ntmps57
    go_wp2_with fail
    ((with_reducible refine (inRange el _).mono ?_); rintro e w' ⟨rfl, rfl⟩)
    rw [hg]
    clear hg
    go_wp2
    go_ret
    exact ⟨rfl, BB.out⟩
  replace h9 : n = 9 := by omega
  subst h9
  cases hh : okL hd
  · have hv : pktOk ⟨el, hd, tag, bd⟩ = false := by
      cases h : pktOk ⟨el, hd, tag, bd⟩
      · rfl
      · obtain ⟨q1, q2, q3, q4, q5, q6⟩ := pktOk_iff.1 h
        dsimp only at q1 q2 q3 q4 q5 q6
        rw [hh] at q2; cases q2
    rw [hv]
    clear hv
    go_enter Try.func57, Try.ntmps57
    go_wp2_with fail
    ((with_reducible refine (inRange el _).mono ?_); rintro e w' ⟨rfl, rfl⟩)
    rw [hg]
    clear hg
    go_wp2_with fail
    ((with_reducible refine (listValid _ _ _ _ _ _ _ HH.out).mono ?_); rintro e w' ⟨rfl, rfl⟩)
    rw [hh]
    clear hh
    go_wp2
    go_ret
    exact ⟨rfl, BB.out⟩
  cases ht : inN tag
  · have hv : pktOk ⟨el, hd, tag, bd⟩ = false := by
      cases h : pktOk ⟨el, hd, tag, bd⟩
      · rfl
      · obtain ⟨q1, q2, q3, q4, q5, q6⟩ := pktOk_iff.1 h
        dsimp only at q1 q2 q3 q4 q5 q6
        rw [ht] at q4; cases q4
    rw [hv]
    clear hv
    go_enter Try.func57, Try.ntmps57
    go_wp2_with fail
    ((with_reducible refine (inRange el _).mono ?_); rintro e w' ⟨rfl, rfl⟩)
    rw [hg]
    clear hg
    go_wp2_with fail
    ((with_reducible refine (listValid _ _ _ _ _ _ _ HH.out).mono ?_); rintro e w' ⟨rfl, rfl⟩)
    rw [hh]
    clear hh
    go_wp2_with fail
    ((with_reducible refine (Nv.numberValid tag _).mono ?_); rintro e w' ⟨rfl, rfl⟩)
    rw [ht]
    clear ht
    go_wp2
    go_ret
    exact ⟨rfl, BB.out⟩
  by_cases h6 : ¬ m = 6
  · have hv : pktOk ⟨el, hd, tag, bd⟩ = false := by
      cases h : pktOk ⟨el, hd, tag, bd⟩
      · rfl
      · obtain ⟨q1, q2, q3, q4, q5, q6⟩ := pktOk_iff.1 h
        dsimp only at q1 q2 q3 q4 q5 q6
        exact absurd (L2.out.symm.trans q6) h6
    rw [hv]
    clear hv
    have e6 : ((m : Int) == 6) = false := by simp; omega
    clear h6
    go_enter Try.func57, Try.ntmps57
    go_wp2_with fail
    ((with_reducible refine (inRange el _).mono ?_); rintro e w' ⟨rfl, rfl⟩)
    rw [hg]
    clear hg
    go_wp2_with fail
    ((with_reducible refine (listValid _ _ _ _ _ _ _ HH.out).mono ?_); rintro e w' ⟨rfl, rfl⟩)
    rw [hh]
    clear hh
    go_wp2_with fail
    ((with_reducible refine (Nv.numberValid tag _).mono ?_); rintro e w' ⟨rfl, rfl⟩)
    rw [ht]
    clear ht
    go_wp2
    go_ret
    exact ⟨rfl, BB.out⟩
  replace h6 : m = 6 := by omega
  subst h6
  cases hb : okL bd
  · have hv : pktOk ⟨el, hd, tag, bd⟩ = false := by
      cases h : pktOk ⟨el, hd, tag, bd⟩
      · rfl
      · obtain ⟨q1, q2, q3, q4, q5, q6⟩ := pktOk_iff.1 h
        dsimp only at q1 q2 q3 q4 q5 q6
        rw [hb] at q5; cases q5
    rw [hv]
    clear hv
    go_enter Try.func57, Try.ntmps57
    go_wp2_with fail
    ((with_reducible refine (inRange el _).mono ?_); rintro e w' ⟨rfl, rfl⟩)
    rw [hg]
    clear hg
    go_wp2_with fail
    ((with_reducible refine (listValid _ _ _ _ _ _ _ HH.out).mono ?_); rintro e w' ⟨rfl, rfl⟩)
    rw [hh]
    clear hh
    go_wp2_with fail
    ((with_reducible refine (Nv.numberValid tag _).mono ?_); rintro e w' ⟨rfl, rfl⟩)
    rw [ht]
    clear ht
    go_wp2_with fail
    ((with_reducible refine (listValid _ _ _ _ _ _ _ HB.out).mono ?_); rintro e w' ⟨rfl, rfl⟩)
    rw [hb]
    clear hb
    go_wp2
    go_ret
    exact ⟨rfl, BB.out⟩
  have hv : pktOk ⟨el, hd, tag, bd⟩ = true := pktOk_iff.2 ⟨hg, hh, L1.out, ht, hb, L2.out⟩
  rw [hv]
  clear hv
  go_enter Try.func57, Try.ntmps57
  go_wp2_with fail
  ((with_reducible refine (inRange el _).mono ?_); rintro e w' ⟨rfl, rfl⟩)
  rw [hg]
  clear hg
  go_wp2_with fail
  ((with_reducible refine (listValid _ _ _ _ _ _ _ HH.out).mono ?_); rintro e w' ⟨rfl, rfl⟩)
  rw [hh]
  clear hh
  go_wp2_with fail
  ((with_reducible refine (Nv.numberValid tag _).mono ?_); rintro e w' ⟨rfl, rfl⟩)
  rw [ht]
  clear ht
  go_wp2_with fail
  ((with_reducible refine (listValid _ _ _ _ _ _ _ HB.out).mono ?_); rintro e w' ⟨rfl, rfl⟩)
  rw [hb]
  clear hb
  go_wp2
  go_ret
  exact ⟨rfl, BB.out⟩


end Im5
end Go.Proofs.Ytnjcpbkpcmemeac
