/-
  The reader of codes: what a reader in memory is, and the contract of its method pick: any code, any place, a number from 0 to n-1.
-/
import Derived.Test.YtjdkhloijddjjabChecked
import Derived.WalkKit
import Derived.Below
import Derived.Laws.OwnMore
import Derived.Laws.AppendOwn
import Derived.Deep.QuietTactic
import Derived.BigQuiet
import Derived.Lib.Hide
import Derived.Laws.BitsAllLaws
import Derived.Laws.BitsLemmas
import Derived.IntWalk
import Derived.Laws.Rows
namespace Go.Proofs.Ytjdkhloijddjjab
open Go.RowKit
namespace Rd

/-- Two numbers below 2^30, xored as int, give a number below 2^30. -/
theorem xor_small (x y : Nat) (hx : x < 1073741824) (hy : y < 1073741824) : ∃ z : Nat, z < 1073741824 ∧ bits .xor .i64 (x : Int) (y : Int) = (z : Int) := by
  have e : ∀ k : Nat, k < 1073741824 → (BitVec.ofInt 64 (k : Int)).toNat = k := fun k hk => by
    rw [BitVec.ofInt_natCast]; exact (BitVec.toNat_ofNat ..).trans (Nat.mod_eq_of_lt (by omega))
  have hz : x ^^^ y < 2 ^ 30 := Nat.xor_lt_two_pow hx hy
  refine ⟨x ^^^ y, hz, ?_⟩
  show IntKind.i64.wrap ((BitVec.ofInt 64 (x : Int) ^^^ BitVec.ofInt 64 (y : Int)).toNat : Int) = _
  rw [BitVec.toNat_xor, e x hx, e y hy]
  exact IntWalk.i64_in _ (by omega)

/-- The mixture past the code's end is a number that is not great. -/
theorem mixture (u v k d : Int) (hu : 0 ≤ u ∧ u ≤ 255) (hv : 0 ≤ v ∧ v ≤ 255) (hk : 0 ≤ k ∧ k ≤ 100000) (hd : 0 ≤ d ∧ d ≤ 100000) :
    ∃ x : Nat, wrap64 (u * 131 + v * 1117 + k * 29 + wrap64 (wrap64 d * 53)) = (x : Int) ∧ x ≤ 1000000000 := by
  rw [IntWalk.wrap64_in d (by omega), IntWalk.wrap64_in (d * 53) (by omega), IntWalk.wrap64_in (u * 131 + v * 1117 + k * 29 + d * 53) (by omega)]
  exact ⟨(u * 131 + v * 1117 + k * 29 + d * 53).toNat, by omega, by omega⟩

theorem pick_c (b off rb : Nat) (n c k i1 i2 : Nat) (m u1 u2 : Int) (w : World) (hn : 0 < n) (hn2 : n ≤ 2000) (hk : n ≤ k) (hk2 : k ≤ 100000) (hm : 1 ≤ m) (hm2 : m ≤ 100000)
    (h0 : w.cell? ⟨rb, 0, none⟩ = some (.slice (some ⟨b, off, none⟩) n c)) (h1 : w.cell? ⟨rb, 1, none⟩ = some (.int .i64 k)) (hf : w.frozen? ⟨rb, 1, none⟩ = false)
    (hne : b ≠ rb) (hu1 : 0 ≤ u1 ∧ u1 ≤ 255) (hu2 : 0 ≤ u2 ∧ u2 ≤ 255) (l1 : i1 < n) (l2 : i2 < n) (q1 : (k : Int).tmod (n : Int) = (i1 : Int)) (q4 : ((k : Int) * 7 + 3).tmod (n : Int) = (i2 : Int))
    (g1 : w.cell? ⟨b, off + i1, none⟩ = some (.int .u8 u1)) (g2 : w.cell? ⟨b, off + i2, none⟩ = some (.int .u8 u2)) :
    Calls Try.prog 38 #[.pointer (some ⟨rb, 0, none⟩), .int .i64 m] w fun e w' => (∃ v : Int, e = .returned (.int .i64 v) ∧ 0 ≤ v ∧ v < m) ∧ ∃ d, w' = (w.setCell ⟨rb, 1, none⟩ (.int .i64 (k + 1))).drewN d := by
  have hn0 : ((n : Int) == 0) = false := by simp; omega
  have hm0 : ¬ m < 1 := by omega
  have hkn : ¬ k < n := by omega
  have q2 : IntKind.i64.wrap ((k : Int) * 7) = (k : Int) * 7 := IntWalk.i64_in _ (by omega)
  have q3 : IntKind.i64.wrap ((k : Int) * 7 + 3) = (k : Int) * 7 + 3 := IntWalk.i64_in _ (by omega)
  have hnn : ¬ n = 0 := by omega
  go_enter Try.func38, Try.ntmps38
  go_wp2
  go_quiet (fail)
  obtain ⟨x, hx, hxb⟩ := mixture u1 u2 k ((k : Int) / (n : Int)) hu1 hu2 (by omega) ⟨Int.ediv_nonneg (by omega) (by omega), Int.le_trans (Int.ediv_le_self _ (by omega)) (by omega)⟩
  rw [hx]
  clear hx q1 q4 q2 q3
  obtain ⟨y, hyb, hy⟩ := xor_small x (x / 64) (by omega) (by omega)
  rw [show ((x / 64 : Nat) : Int) = (x : Int) / 64 from rfl] at hy
  have r0 : 0 ≤ (y : Int) % m := Int.emod_nonneg _ (by omega)
  have r1 : (y : Int) % m < m := Int.emod_lt_of_pos _ (by omega)
  have hmn : ¬ m = 0 := by omega
  go_wp2
  go_ret
  exact ⟨⟨_, rfl, r0, r1⟩, _, rfl⟩

theorem pick_b (b off rb : Nat) (n c k : Nat) (m u1 : Int) (w : World) (hn2 : n ≤ 2000) (hk : k < n) (hm : 1 ≤ m) (hm2 : m ≤ 100000)
    (h0 : w.cell? ⟨rb, 0, none⟩ = some (.slice (some ⟨b, off, none⟩) n c)) (h1 : w.cell? ⟨rb, 1, none⟩ = some (.int .i64 k)) (hf : w.frozen? ⟨rb, 1, none⟩ = false)
    (hne : b ≠ rb) (hu1 : 0 ≤ u1 ∧ u1 ≤ 255) (g1 : w.cell? ⟨b, off + k, none⟩ = some (.int .u8 u1)) :
    Calls Try.prog 38 #[.pointer (some ⟨rb, 0, none⟩), .int .i64 m] w fun e w' => (∃ v : Int, e = .returned (.int .i64 v) ∧ 0 ≤ v ∧ v < m) ∧ ∃ d, w' = (w.setCell ⟨rb, 1, none⟩ (.int .i64 (k + 1))).drewN d := by
  have hn0 : ((n : Int) == 0) = false := by simp; omega
  have hm0 : ¬ m < 1 := by omega
  have hnn : ¬ n = 0 := by omega
  have hmn : ¬ m = 0 := by omega
  have r0 : 0 ≤ u1 % m := Int.emod_nonneg _ (by omega)
  have r1 : u1 % m < m := Int.emod_lt_of_pos _ (by omega)
  go_enter Try.func38, Try.ntmps38
  go_wp2
  go_ret
  exact ⟨⟨_, rfl, r0, r1⟩, 0, rfl⟩

theorem pick_0 (A : Option Addr) (rb c k : Nat) (m : Int) (w : World) (hk : k ≤ 100000) (hm : 1 ≤ m) (hm2 : m ≤ 100000)
    (h0 : w.cell? ⟨rb, 0, none⟩ = some (.slice A 0 c)) (h1 : w.cell? ⟨rb, 1, none⟩ = some (.int .i64 k)) (hf : w.frozen? ⟨rb, 1, none⟩ = false) :
    Calls Try.prog 38 #[.pointer (some ⟨rb, 0, none⟩), .int .i64 m] w fun e w' => (∃ v : Int, e = .returned (.int .i64 v) ∧ 0 ≤ v ∧ v < m) ∧ ∃ d, w' = (w.setCell ⟨rb, 1, none⟩ (.int .i64 (k + 1))).drewN d := by
  have hm0 : ¬ m < 1 := by omega
  go_enter Try.func38, Try.ntmps38
  go_wp2
  go_ret
  exact ⟨⟨0, rfl, by omega, by omega⟩, 0, rfl⟩

/-- A reader lies at block rb, at a place of at most N; its code lies in an older block. -/
def Reader (w : World) (rb N : Nat) : Prop :=
  ∃ (A : Option Addr) (n c k : Nat), n ≤ 2000 ∧ n ≤ c ∧ k ≤ N ∧ w.heap[rb]? = some (.cells #[.slice A n c, .int .i64 k] 78 (0, 0)) ∧
    (0 < n → ∃ b off, A = some ⟨b, off, none⟩ ∧ b < rb ∧ ∀ j, j < n → ∃ u : Int, (0 ≤ u ∧ u ≤ 255) ∧ w.cell? ⟨b, off + j, none⟩ = some (.int .u8 u))

theorem Reader.lt {w : World} {rb N : Nat} (h : Reader w rb N) : rb < w.heap.size := by
  obtain ⟨_, _, _, _, _, _, _, hh, _⟩ := h
  exact (Array.getElem?_eq_some_iff.1 hh).1

theorem Reader.mono {w : World} {rb N N' : Nat} (h : Reader w rb N) (hN : N ≤ N') : Reader w rb N' := by
  obtain ⟨A, n, c, k, h1, h2, h3, h4, h5⟩ := h
  exact ⟨A, n, c, k, h1, h2, by omega, h4, h5⟩

/-- What leaves the blocks up to rb alone keeps the reader. -/
theorem Reader.keep {w w' : World} {rb N : Nat} (h : Reader w rb N) (hk : ∀ b, b ≤ rb → w'.heap[b]? = w.heap[b]?) : Reader w' rb N := by
  obtain ⟨A, n, c, k, h1, h2, h3, h4, h5⟩ := h
  refine ⟨A, n, c, k, h1, h2, h3, (hk rb (Nat.le_refl _)).trans h4, fun hn => ?_⟩
  obtain ⟨b, off, e, hb, hc⟩ := h5 hn
  refine ⟨b, off, e, hb, fun j hj => ?_⟩
  obtain ⟨u, hu, hcell⟩ := hc j hj
  exact ⟨u, hu, (World.cell?_of_block (hk b (by omega))).trans hcell⟩

theorem Reader.alloc {w : World} {rb N : Nat} (h : Reader w rb N) (o : Obj) : Reader (w.alloc o) rb N :=
  h.keep fun b hb => Below.heap_alloc w o b (by have := h.lt; omega)
theorem Reader.drewN {w : World} {rb N : Nat} (h : Reader w rb N) (d : Nat) : Reader (w.drewN d) rb N := h
theorem Reader.grown {w w' : World} {rb N : Nat} {row : Option Nat} (h : Reader w rb N) (hg : w.grownBy w' row) (hr : ∀ k, row = some k → rb < k) : Reader w' rb N :=
  h.keep fun b hb => hg.block b (by have := h.lt; omega) (fun e => by have := hr b e.symm; omega)
theorem Reader.below {w w' : World} {rb N B : Nat} (h : Reader w rb N) (hg : Below B w w') (hr : rb < B) : Reader w' rb N :=
  h.keep fun b hb => hg.block b (by omega)

/-- What a draw does: old blocks but the reader's are as they were. -/
def Drawn (rb : Nat) (w w' : World) : Prop := w.grownBy w' (some rb)

def PickPost (m : Int) (rb N : Nat) (w : World) (e : Ending) (w' : World) : Prop :=
  ∃ v : Int, e = .returned (.int .i64 v) ∧ 0 ≤ v ∧ v < m ∧ Reader w' rb (N + 1) ∧ w.grownBy w' (some rb) ∧ w'.heap.size = w.heap.size

theorem pick_post {w : World} {rb N : Nat} {A : Option Addr} {n c k : Nat} {m : Int} {e : Ending} {w' : World} (h1 : n ≤ 2000) (h2 : n ≤ c) (h3 : k ≤ N)
    (h4 : w.heap[rb]? = some (.cells #[.slice A n c, .int .i64 k] 78 (0, 0)))
    (h5 : 0 < n → ∃ b off, A = some ⟨b, off, none⟩ ∧ b < rb ∧ ∀ j, j < n → ∃ u : Int, (0 ≤ u ∧ u ≤ 255) ∧ w.cell? ⟨b, off + j, none⟩ = some (.int .u8 u))
    (h : (∃ v : Int, e = .returned (.int .i64 v) ∧ 0 ≤ v ∧ v < m) ∧ ∃ d, w' = (w.setCell ⟨rb, 1, none⟩ (.int .i64 (k + 1))).drewN d) : PickPost m rb N w e w' := by
  obtain ⟨⟨v, he, hv0, hv1⟩, d, rfl⟩ := h
  have far : ∀ i, i ≠ rb → (w.setCell ⟨rb, 1, none⟩ (.int .i64 (k + 1))).heap[i]? = w.heap[i]? := fun i hi => Below.heap_setCell _ _ _ _ hi
  have hsz : ((w.setCell ⟨rb, 1, none⟩ (.int .i64 (k + 1))).drewN d).heap.size = w.heap.size := by
    show (w.setCell ⟨rb, 1, none⟩ (.int .i64 (k + 1))).heap.size = _
    simp [World.setCell]
  refine ⟨v, he, hv0, hv1, ⟨A, n, c, k + 1, h1, h2, by omega, ?_, fun hn => ?_⟩, ⟨rfl, rfl, rfl, by rw [hsz]; exact Nat.le_refl _, fun i _ hne => far i (fun e => hne (by rw [e]))⟩, hsz⟩
  · show (w.setCell ⟨rb, 1, none⟩ (.int .i64 (k + 1))).heap[rb]? = _
    simp [World.setCell, Array.getElem?_modify, h4]
  · obtain ⟨b, off, e, hb, hc⟩ := h5 hn
    refine ⟨b, off, e, hb, fun j hj => ?_⟩
    obtain ⟨u, hu, hcell⟩ := hc j hj
    exact ⟨u, hu, (World.cell?_of_block (far b (by omega))).trans hcell⟩

/-- The contract of pick: a number from 0 to m-1; the reader has moved on by one. -/
theorem pick (rb N : Nat) (m : Int) (w : World) (hr : Reader w rb N) (hN : N ≤ 100000) (hm : 1 ≤ m) (hm2 : m ≤ 100000) :
    Calls Try.prog 38 #[.pointer (some ⟨rb, 0, none⟩), .int .i64 m] w (PickPost m rb N w) := by
  obtain ⟨A, n, c, k, h1, h2, h3, h4, h5⟩ := hr
  have c0 : w.cell? ⟨rb, 0, none⟩ = some (.slice A n c) := by rw [cell_of_row w rb 0 _ _ _ h4]; rfl
  have c1 : w.cell? ⟨rb, 1, none⟩ = some (.int .i64 k) := by rw [cell_of_row w rb 1 _ _ _ h4]; rfl
  have fr : w.frozen? ⟨rb, 1, none⟩ = false := by simp [World.frozen?, h4]
  rcases Nat.eq_zero_or_pos n with rfl | hn
  · exact (pick_0 A rb c k m w (by omega) hm hm2 c0 c1 fr).mono fun _ _ h => pick_post h1 h2 h3 h4 h5 h
  · have H5 := h5
    obtain ⟨b, off, rfl, hb, hc⟩ := h5 hn
    by_cases hk : k < n
    · obtain ⟨u, hu, g⟩ := hc k hk
      exact (pick_b b off rb n c k m u w h1 hk hm hm2 c0 c1 fr (by omega) hu g).mono fun _ _ h => pick_post h1 h2 h3 h4 H5 h
    · obtain ⟨u, hu, g⟩ := hc (k % n) (Nat.mod_lt _ hn)
      obtain ⟨u', hu', g'⟩ := hc ((k * 7 + 3) % n) (Nat.mod_lt _ hn)
      exact (pick_c b off rb n c k (k % n) ((k * 7 + 3) % n) m u u' w hn h1 (by omega) (by omega) hm hm2 c0 c1 fr (by omega) hu hu' (Nat.mod_lt _ hn) (Nat.mod_lt _ hn)
        (by rw [Int.tmod_eq_emod_of_nonneg (by omega)]; rfl) (by rw [Int.tmod_eq_emod_of_nonneg (by omega)]; rfl) g g').mono fun _ _ h => pick_post h1 h2 h3 h4 H5 h

end Rd
end Go.Proofs.Ytjdkhloijddjjab
