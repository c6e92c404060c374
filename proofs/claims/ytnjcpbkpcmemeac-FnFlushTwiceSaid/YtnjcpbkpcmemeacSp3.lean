/-
  Contracts of the model's chapter 3: tags.
-/
import Derived.Test.YtnjcpbkpcmemeacSp2
import Derived.Test.YtnjcpbkpcmemeacTm
namespace Go.Proofs.Ytnjcpbkpcmemeac
open Go.RowKit
namespace Sp3
open Il Gm Mm Tm Sp2

set_option maxRecDepth 20000 in
theorem l3Tag (lo hi : Nat) (A : Option Addr) (n c : Nat) (xs : List Int) (key : Int) (w : World) (hx : Ints lo hi w A n c xs) (hok : okL xs = true) (h1 : 1 ≤ key) (h2 : key ≤ 996) :
    Calls Try.prog 97 #[.int .i64 key, .slice A n c] w fun e w' => e = .returned (.int .i64 (tagL key xs)) ∧ w = w' := by
  have HL := Lib.hid hx.1
  have HX := Lib.hid hx
  have HK := Lib.hid hok
  have hn : n ≤ 24 := by rw [← hx.1]; exact (okL_iff.1 hok).2
  have hi0 : (3 * key + 41 * (n : Int) + 1) % 991 = tagTo key xs 0 := by rw [tagTo_zero, hx.1]; rfl
  have HI := Lib.hid hi0
  clear hx hok hi0
  go_enter Try.func97, Try.ntmps97
  go_wp2
  rw [HI.out]
  go_loop [5, 6] (fun t i => ∃ k : Nat, k ≤ n ∧ i = .int .i64 k ∧ t = .int .i64 (tagTo key xs k)) (fun _ i => n - (intOf i).toNat)
  case atStart => exact ⟨0, Nat.zero_le _, rfl, rfl⟩
  case round =>
    obtain ⟨k, hk, rfl, rfl⟩ := hrel
    have hb := tagTo_bd key xs k
    by_cases hlt : k < n
    · obtain ⟨b, off, rfl, _, _, hcx⟩ := HX.out.at_ hlt
      have hbd := okL_at HK.out (k := k) (by rw [HL.out]; exact hlt)
      have HN := Lib.hid (tagTo_succ key (xs := xs) (k := k) (by rw [HL.out]; exact hlt))
      generalize xs.getD k 0 = x at hcx hbd HN
      generalize tagTo key xs k = t at hb HN ⊢
      go_wp2
      go_round
      case rel => exact ⟨k + 1, by omega, by go_num, by rw [HN.out]⟩
      case measure => simp [intOf]; omega
    · have hfin : tagTo key xs k = tagL key xs := tagTo_all key (by rw [HL.out]; omega)
      rw [hfin]
      clear hfin hb
      go_wp2
      go_ret
      exact ⟨rfl, rfl⟩





end Sp3
end Go.Proofs.Ytnjcpbkpcmemeac
