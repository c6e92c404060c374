/-
  Several parts of the proof in one text.
-/
import Derived.Test.YtdngdmhepjjeeaaIm5
import Derived.Test.YtdngdmhepjjeeaaPl
import Derived.Test.YtdngdmhepjjeeaaPq
import Derived.Deep.RegionLaw
import Derived.Deep.LoopGhost
import Derived.Laws.ResultCell
import Derived.BigQuiet
/-
  Contracts of the program's layers: linked blocks, their filler, their headers, the masked body.
-/
namespace Go.Proofs.Ytdngdmhepjjeeaa
open Go.RowKit
namespace Im5
open Il Gm Mm Tm Lm Pm Pn Pq Im2 Im3 Im4
open Sp5 (HdrPost)
open Sp4 (lenOf)




end Im5
end Go.Proofs.Ytdngdmhepjjeeaa

/-
  The contract of the program's headers: a method that calls itself along the layers.
-/
namespace Go.Proofs.Ytdngdmhepjjeeaa
open Go.RowKit
namespace Im5
open Il Gm Mm Tm Lm Pm Pn Pq Im2 Im3 Im4
open Sp5 (HdrPost)


end Im5
end Go.Proofs.Ytdngdmhepjjeeaa

/-
  Contracts of the program's chapter 5: valid packets, making a packet, peeling one.
-/
namespace Go.Proofs.Ytdngdmhepjjeeaa
open Go.RowKit
namespace Im5
open Il Gm Mm Tm Lm Pm Pn Pq Im2 Im3 Im4
open Sp5 (namesOk pathOk pathF pubs_in pubs_len)

set_option maxRecDepth 20000 in
theorem PacketValid (lo hi lo2 hi2 : Nat) (A B : Option Addr) (n c m d : Nat) (el tag : Int) (hd bd : List Int) (w : World) (hh : Ints lo hi w A n c hd) (hb : Ints lo2 hi2 w B m d bd) :
    Calls Try.prog 20 #[.agg #[.int .i64 el, .slice A n c, .int .i64 tag, .slice B m d]] w (BoolB (pktOk ⟨el, hd, tag, bd⟩) w) := by
  have hbA : Below w.heap.size w (w.alloc (.cells #[.int .i64 el, .slice A n c, .int .i64 tag, .slice B m d] 25)) := (Below.refl _ _).alloc (Nat.le_refl _) _
  have HH := Lib.hid (hh.below hbA (Nat.le_refl _))
  have HB := Lib.hid (hb.below hbA (Nat.le_refl _))
  have hc1 := hh.2.1
  have hc2 := hb.2.1
  have hc3 := hh.2.2.1
  have hc4 := hb.2.2.1
  unfold maxLen at hc3 hc4
  have L1 := Lib.hid hh.1
  have L2 := Lib.hid hb.1
  have BB := Lib.hid hbA
  clear hh hb hbA
  cases hg : inG el
  · have hv : pktOk ⟨el, hd, tag, bd⟩ = false := by
      cases h : pktOk ⟨el, hd, tag, bd⟩
      · rfl
      · obtain ⟨q1, q2, q3, q4, q5, q6⟩ := pktOk_iff.1 h
        dsimp only at q1 q2 q3 q4 q5 q6
        rw [hg] at q1; cases q1
    rw [hv]
    clear hv
    go_enter Try.func20, Try.ntmps20
    go_wp2_with fail
    ((with_reducible refine (inRange el _).mono ?_); rintro e w' ⟨rfl, rfl⟩)
    rw [hg]
    clear hg
    go_wp2
    go_ret
    exact ⟨rfl, BB.out⟩
  by_cases h9 : ¬ n = 9
  · have hv : pktOk ⟨el, hd, tag, bd⟩ = false := by
      cases h : pktOk ⟨el, hd, tag, bd⟩
      · rfl
      · obtain ⟨q1, q2, q3, q4, q5, q6⟩ := pktOk_iff.1 h
        dsimp only at q1 q2 q3 q4 q5 q6
        exact absurd (L1.out.symm.trans q3) h9
    rw [hv]
    clear hv
    have e9 : ((n : Int) == 9) = false := by simp; omega
    clear h9
    go_enter Try.func20, Try.ntmps20
    go_wp2_with fail
    ((with_reducible refine (inRange el _).mono ?_); rintro e w' ⟨rfl, rfl⟩)
    rw [hg]
    clear hg
    go_wp2
    go_ret
    exact ⟨rfl, BB.out⟩
  replace h9 : n = 9 := by omega
  subst h9
  cases hh : okL hd
  · have hv : pktOk ⟨el, hd, tag, bd⟩ = false := by
      cases h : pktOk ⟨el, hd, tag, bd⟩
      · rfl
      · obtain ⟨q1, q2, q3, q4, q5, q6⟩ := pktOk_iff.1 h
        dsimp only at q1 q2 q3 q4 q5 q6
        rw [hh] at q2; cases q2
    rw [hv]
    clear hv
    go_enter Try.func20, Try.ntmps20
    go_wp2_with fail
    ((with_reducible refine (inRange el _).mono ?_); rintro e w' ⟨rfl, rfl⟩)
    rw [hg]
    clear hg
    go_wp2_with fail
    ((with_reducible refine (listValid _ _ _ _ _ _ _ HH.out).mono ?_); rintro e w' ⟨rfl, rfl⟩)
    rw [hh]
    clear hh
    go_wp2
    go_ret
    exact ⟨rfl, BB.out⟩
  by_cases h0 : ¬ 0 ≤ tag
  · have hv : pktOk ⟨el, hd, tag, bd⟩ = false := by
      cases h : pktOk ⟨el, hd, tag, bd⟩
      · rfl
      · obtain ⟨q1, q2, q3, q4, q5, q6⟩ := pktOk_iff.1 h
        dsimp only at q1 q2 q3 q4 q5 q6
        exact absurd (inN_iff.1 q4).1 h0
    rw [hv]
    clear hv
    have e0 : decide (0 ≤ tag) = false := by simpa using h0
    clear h0
    go_enter Try.func20, Try.ntmps20
    go_wp2_with fail
    ((with_reducible refine (inRange el _).mono ?_); rintro e w' ⟨rfl, rfl⟩)
    rw [hg]
    clear hg
    go_wp2_with fail
    ((with_reducible refine (listValid _ _ _ _ _ _ _ HH.out).mono ?_); rintro e w' ⟨rfl, rfl⟩)
    rw [hh]
    clear hh
    go_wp2
    go_ret
    exact ⟨rfl, BB.out⟩
  replace h0 : 0 ≤ tag := by omega
  by_cases h1 : ¬ tag < 991
  · have hv : pktOk ⟨el, hd, tag, bd⟩ = false := by
      cases h : pktOk ⟨el, hd, tag, bd⟩
      · rfl
      · obtain ⟨q1, q2, q3, q4, q5, q6⟩ := pktOk_iff.1 h
        dsimp only at q1 q2 q3 q4 q5 q6
        exact absurd (inN_iff.1 q4).2 (by omega)
    rw [hv]
    clear hv
    have e1 : decide (tag < 991) = false := by simpa using h1
    clear h1
    go_enter Try.func20, Try.ntmps20
    go_wp2_with fail
    ((with_reducible refine (inRange el _).mono ?_); rintro e w' ⟨rfl, rfl⟩)
    rw [hg]
    clear hg
    go_wp2_with fail
    ((with_reducible refine (listValid _ _ _ _ _ _ _ HH.out).mono ?_); rintro e w' ⟨rfl, rfl⟩)
    rw [hh]
    clear hh
    go_wp2
    go_ret
    exact ⟨rfl, BB.out⟩
  replace h1 : tag < 991 := by omega
  by_cases h6 : ¬ m = 6
  · have hv : pktOk ⟨el, hd, tag, bd⟩ = false := by
      cases h : pktOk ⟨el, hd, tag, bd⟩
      · rfl
      · obtain ⟨q1, q2, q3, q4, q5, q6⟩ := pktOk_iff.1 h
        dsimp only at q1 q2 q3 q4 q5 q6
        exact absurd (L2.out.symm.trans q6) h6
    rw [hv]
    clear hv
    have e6 : ((m : Int) == 6) = false := by simp; omega
    clear h6
    go_enter Try.func20, Try.ntmps20
    go_wp2_with fail
    ((with_reducible refine (inRange el _).mono ?_); rintro e w' ⟨rfl, rfl⟩)
    rw [hg]
    clear hg
    go_wp2_with fail
    ((with_reducible refine (listValid _ _ _ _ _ _ _ HH.out).mono ?_); rintro e w' ⟨rfl, rfl⟩)
    rw [hh]
    clear hh
    go_wp2
    go_ret
    exact ⟨rfl, BB.out⟩
  replace h6 : m = 6 := by omega
  subst h6
  cases hb : okL bd
  · have hv : pktOk ⟨el, hd, tag, bd⟩ = false := by
      cases h : pktOk ⟨el, hd, tag, bd⟩
      · rfl
      · obtain ⟨q1, q2, q3, q4, q5, q6⟩ := pktOk_iff.1 h
        dsimp only at q1 q2 q3 q4 q5 q6
        rw [hb] at q5; cases q5
    rw [hv]
    clear hv
    go_enter Try.func20, Try.ntmps20
    go_wp2_with fail
    ((with_reducible refine (inRange el _).mono ?_); rintro e w' ⟨rfl, rfl⟩)
    rw [hg]
    clear hg
    go_wp2_with fail
    ((with_reducible refine (listValid _ _ _ _ _ _ _ HH.out).mono ?_); rintro e w' ⟨rfl, rfl⟩)
    rw [hh]
    clear hh
    go_wp2_with fail
    ((with_reducible refine (listValid _ _ _ _ _ _ _ HB.out).mono ?_); rintro e w' ⟨rfl, rfl⟩)
    rw [hb]
    clear hb
    go_wp2
    go_ret
    exact ⟨rfl, BB.out⟩
  have hv : pktOk ⟨el, hd, tag, bd⟩ = true := pktOk_iff.2 ⟨hg, hh, L1.out, inN_iff.2 ⟨h0, show tag ≤ 990 by omega⟩, hb, L2.out⟩
  rw [hv]
  clear hv
  go_enter Try.func20, Try.ntmps20
  go_wp2_with fail
  ((with_reducible refine (inRange el _).mono ?_); rintro e w' ⟨rfl, rfl⟩)
  rw [hg]
  clear hg
  go_wp2_with fail
  ((with_reducible refine (listValid _ _ _ _ _ _ _ HH.out).mono ?_); rintro e w' ⟨rfl, rfl⟩)
  rw [hh]
  clear hh
  go_wp2_with fail
  ((with_reducible refine (listValid _ _ _ _ _ _ _ HB.out).mono ?_); rintro e w' ⟨rfl, rfl⟩)
  rw [hb]
  clear hb
  go_wp2
  go_ret
  exact ⟨rfl, BB.out⟩


end Im5
end Go.Proofs.Ytdngdmhepjjeeaa
