/-
  A contract of the laws' helper that makes secrets and their public keys: two lists, gathered side by side.
-/
import Derived.Test.YtdejnbbfdbafnaaDr5
import Derived.Test.YtdejnbbfdbafnaaGrp
import Derived.Test.YtdejnbbfdbafnaaElt
import Derived.Test.YtdejnbbfdbafnaaIla
namespace Go.Proofs.Ytdejnbbfdbafnaa
open Go.RowKit
namespace Sec
open Il Gm

/-- The first k secrets of a seed, and their public keys. -/
def secL (s : Int) (k : Nat) : List Int := (List.range k).map fun (i : Nat) => 1 + (s * 29 + (i : Int) * 101 + 3) % 996
def pubL (s : Int) (k : Nat) : List Int := (secL s k).map (mulG · 5)
theorem secL_succ (s : Int) (k : Nat) : secL s (k + 1) = secL s k ++ [1 + (s * 29 + (k : Int) * 101 + 3) % 996] := by
  unfold secL; rw [List.range_succ, List.map_append]; rfl
theorem pubL_succ (s : Int) (k : Nat) : pubL s (k + 1) = pubL s k ++ [mulG (1 + (s * 29 + (k : Int) * 101 + 3) % 996) 5] := by
  unfold pubL; rw [secL_succ, List.map_append]; rfl
theorem secL_len (s : Int) (k : Nat) : (secL s k).length = k := by simp [secL]
theorem pubL_len (s : Int) (k : Nat) : (pubL s k).length = k := by simp [pubL, secL_len]
theorem secL_in (s : Int) (k : Nat) : ∀ x ∈ secL s k, inG x = true := by
  intro x hx
  unfold secL at hx
  obtain ⟨i, _, rfl⟩ := List.mem_map.1 hx
  exact inG_iff.2 (by omega)

def SecPost (s : Int) (n : Nat) (w : World) (e : Ending) (w' : World) : Prop :=
  ∃ A c B d, e = .returned (.tuple #[.slice A n c, .slice B n d]) ∧ Ints w.heap.size w'.heap.size w' A n c (secL s n) ∧ Ints w.heap.size w'.heap.size w' B n d (pubL s n) ∧ Below w.heap.size w w'
def SecRel (s : Int) (k : Nat) (w wr : World) (v1 v2 : Value) (g1 g2 : Nat) : Prop :=
  AccB g1 wr v1 (secL s k) ∧ AccB g2 wr v2 (pubL s k) ∧ g1 ≠ g2 ∧ w.heap.size ≤ g1 ∧ w.heap.size ≤ g2 ∧ w.grownBy wr none
set_option maxHeartbeats 1000000 in
set_option maxRecDepth 20000 in
theorem secrets (n : Nat) (s : Int) (w : World) (hn : n ≤ 3) (h0 : 0 ≤ s) (h1 : s ≤ 1048576) :
    Calls Try.prog 17 #[.int .i64 n, .int .i64 s] w (SecPost s n w) := by
  have hA1 := accB_new w
  have hA2 := accB_new (w.alloc (.cells #[] 3))
  have hsz : (w.alloc (.cells #[] 3)).heap.size = w.heap.size + 1 := by simp
  rw [hsz] at hA2
  have HG0 : w.grownBy ((w.alloc (.cells #[] 3)).alloc (.cells #[] 3)) none := grown_alloc (World.grownBy_alloc _ _ _) _
  have HT0 : Hid (SecRel s 0 w ((w.alloc (.cells #[] 3)).alloc (.cells #[] 3)) (.slice (some ⟨w.heap.size, 0, none⟩) 0 0) (.slice (some ⟨w.heap.size + 1, 0, none⟩) 0 0) w.heap.size (w.heap.size + 1)) :=
    ⟨hA1.alloc (.cells #[] 3), hA2, by omega, by omega, by omega, HG0⟩
  clear hA1 hA2 hsz HG0
  go_enter Try.func17, Try.ntmps17
  go_wp2
  go_loopw [6, 7, 8] (fun u v i wr => ∃ k : Nat, k ≤ n ∧ i = .int .i64 k ∧ Hid (∃ g1 g2, SecRel s k w wr u v g1 g2)) (fun _ _ i _ => n - (intOf i).toNat)
  case atStart => exact ⟨0, Nat.zero_le _, rfl, _, _, HT0.out⟩
  case round =>
    obtain ⟨k, hk, rfl, hT⟩ := hrel
    clear HT0
    obtain ⟨g1, g2, ha1, ha2, hne, hw1, hw2, hgr⟩ := hT.out
    have HA1 := Lib.hid ha1
    have HA2 := Lib.hid ha2
    have HG1 := Lib.hid hgr
    have hl1 := ha1.lt
    have hl2 := ha2.lt
    clear hT ha1 ha2 hgr
    by_cases hlk : k < n
    · skip
      go_wp2_with fail
      ((with_reducible refine (Elt.element (s * 29 + (k : Int) * 101 + 3) _ (by omega) (by omega)).mono ?_); rintro e w1 ⟨rfl, rfl⟩)
      have HS1 := Lib.hid (secL_succ s k)
      have HS2 := Lib.hid (pubL_succ s k)
      generalize 1 + (s * 29 + (k : Int) * 101 + 3) % 996 = x at *
      go_wp2_with (at_builtin; refine wpList_app1B _ _ _ _ _ HA1.out (by rw [secL_len]; omega) _ _ rfl rfl rfl rfl ?_; intro g5 v5 w5 hN5 hW5 hG5)
      have HB1 := Lib.hid hN5
      have HB2 := Lib.hid (HA2.out.keep hG5 (by simp; omega))
      have HG5 := Lib.hid (grown_trans' HG1.out hG5 (fun g e => by simp at e; omega))
      have hs45 := hG5.size
      have hl5 := hN5.lt
      have hl25 := HB2.out.lt
      clear hN5 hG5 HA1 HA2 HG1
      ((with_reducible refine (Grp.iPublic x _).mono ?_); rintro e w6 ⟨rfl, rfl⟩)
      go_wp2_with (at_builtin; refine wpList_app1B _ _ _ _ _ HB2.out (by rw [pubL_len]; omega) _ _ rfl rfl rfl rfl ?_; intro g7 v7 w7 hN7 hW7 hG7)
      have HN : Hid (∃ g1 g2, SecRel s (k + 1) w w7 v5 v7 g1 g2) :=
        ⟨g5, g7, by rw [HS1.out]; exact HB1.out.keep hG7 (by simp; omega), by rw [HS2.out]; exact hN7, by omega, by omega, by omega, grown_trans' HG5.out hG7 (fun g e => by simp at e; omega)⟩
      exact ⟨⟨k + 1, by omega, by go_num, HN.out⟩, by simp [intOf]; omega⟩
    · obtain rfl : k = n := by omega
      obtain ⟨c1, rfl, ho1⟩ := HA1.out.own
      obtain ⟨c2, rfl, ho2⟩ := HA2.out.own
      rw [secL_len] at ho1 ⊢
      rw [pubL_len] at ho2 ⊢
      have HP := Lib.hid (show SecPost s k w (.returned (.tuple #[.slice (some ⟨g1, 0, none⟩) k c1, .slice (some ⟨g2, 0, none⟩) k c2])) _ from ⟨_, _, _, _, rfl, Rd.ints_w ho1.1 hw1, Rd.ints_w ho2.1 hw2, below_of_grown HG1.out⟩)
      clear ho1 ho2 HA1 HA2 HG1
      go_wp2
      go_ret2
      exact HP.out

end Sec
end Go.Proofs.Ytdejnbbfdbafnaa
