/-
  Contracts of the program's chapter 13: a slot is found, slots become a cache again, a slot more.
-/
import Derived.Test.YtmmnpmfkpieoiaaIm8b
import Derived.Test.YtmmnpmfkpieoiaaSp8e
import Derived.Deep.LoopGhost
import Derived.Deep.RegionLaw
namespace Go.Proofs.Ytmmnpmfkpieoiaa
open Go.RowKit
namespace Im8
open Il Sl Fo Cm Cs Sg Gm

/-- The slot of an epoch, from this one on. -/
def atE (e : Int) : List Nd → Option Addr
  | [] => none
  | nd :: L => bif decide (nd.ep = e) then some ⟨nd.b, 0, none⟩ else atE e L
theorem atE_yes {e : Int} {nd : Nd} (L : List Nd) (h : nd.ep = e) : atE e (nd :: L) = some ⟨nd.b, 0, none⟩ := by unfold atE; rw [decide_eq_true h]; rfl
theorem atE_no {e : Int} {nd : Nd} (L : List Nd) (h : ¬ nd.ep = e) : atE e (nd :: L) = atE e L := by rw [atE]; rw [decide_eq_false h]; rfl
def findE (e : Int) (L : List Nd) : Option Addr := bif decide (e < 0) then none else atE e L
set_option maxRecDepth 20000 in
theorem find (a : Option Addr) (L : List Nd) (e : Int) (w : World) (hch : ChN w a L) : Calls Try.prog 47 #[.pointer a, .int .i64 e] w fun r w' => r = .returned (.pointer (findE e L)) ∧ w = w' := by
  by_cases h0 : e < 0
  · have HV : Hid (findE e L = none) := by show findE e L = none; unfold findE; rw [decide_eq_true h0]; rfl
    rw [HV.out]
    go_enter Try.func47, Try.ntmps47
    go_wp2
    go_ret
    exact ⟨rfl, rfl⟩
  · have HV : Hid (findE e L = atE e L) := by show findE e L = _; unfold findE; rw [decide_eq_false h0]; rfl
    have h0' : decide (e < 0) = false := by simpa using h0
    have HC := Lib.hid hch
    clear hch h0
    rw [HV.out]
    go_enter Try.func47, Try.ntmps47
    go_wp2
    go_loopg [0] L.length (fun g v wr => ∃ (a' : Option Addr) (L' : List Nd), L'.length = g ∧ v = .pointer a' ∧ wr = w ∧ Hid (ChN w a' L' ∧ atE e L' = atE e L))
    case atStart => exact ⟨a, L, rfl, rfl, rfl, HC.out, rfl⟩
    case round =>
      obtain ⟨a', L', hg, rfl, rfl, hT⟩ := hrel
      cases L' with
      | nil =>
        obtain ⟨h1, h2⟩ := hT.out
        obtain rfl : a' = none := h1
        have HE := Lib.hid h2
        clear h2 hT
        go_wp2
        go_ret
        rw [← HE.out]
        exact ⟨rfl, rfl⟩
      | cons nd L2 =>
        obtain ⟨⟨u, rfl, hb, hs, hn⟩, h2⟩ := hT.out
        obtain ⟨c0, c1, c2, cf⟩ := nd_cells hb
        have HN := Lib.hid hn
        clear hT hn hs hb c1
        by_cases he : nd.ep = e
        · rw [atE_yes L2 he] at h2
          have HE := Lib.hid h2
          have hne : (nd.ep != e) = false := by simpa using he
          clear h2 he
          go_wp2
          go_ret
          rw [← HE.out]
          exact ⟨rfl, rfl⟩
        · rw [atE_no L2 he] at h2
          have HE := Lib.hid h2
          have hne : (nd.ep != e) = true := by simpa using he
          clear h2 he
          go_wp2
          go_roundg L2.length
          case rel => exact ⟨u, L2, rfl, rfl, rfl, HN.out, HE.out⟩
          case measure => simp at hg; omega

end Im8
end Go.Proofs.Ytmmnpmfkpieoiaa
