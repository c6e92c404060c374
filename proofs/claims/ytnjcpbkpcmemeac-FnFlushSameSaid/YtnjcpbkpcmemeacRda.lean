/-
  Several parts of the proof in one text.
-/
import Derived.Test.YtnjcpbkpcmemeacChecked
import Derived.WalkKit
import Derived.Below
import Derived.Laws.OwnMore
import Derived.Laws.AppendOwn
import Derived.Deep.QuietTactic
import Derived.BigQuiet
import Derived.Lib.Hide
import Derived.Laws.BitsAllLaws
import Derived.Laws.BitsLemmas
import Derived.IntWalk
import Derived.Laws.Rows
import Derived.Test.YtnjcpbkpcmemeacIla
import Derived.OpenShut
/-
  The reader of codes: what a reader in memory is, and the contract of its method pick: any code, any place, a number from 0 to n-1.
-/
namespace Go.Proofs.Ytnjcpbkpcmemeac
open Go.RowKit
namespace Rd

/-- Two numbers below 2^30, xored as int, give a number below 2^30. -/
theorem xor_small (x y : Nat) (hx : x < 1073741824) (hy : y < 1073741824) : ∃ z : Nat, z < 1073741824 ∧ bits .xor .i64 (x : Int) (y : Int) = (z : Int) := by
  have e : ∀ k : Nat, k < 1073741824 → (BitVec.ofInt 64 (k : Int)).toNat = k := fun k hk => by
    rw [BitVec.ofInt_natCast]; exact (BitVec.toNat_ofNat ..).trans (Nat.mod_eq_of_lt (by omega))
  have hz : x ^^^ y < 2 ^ 30 := Nat.xor_lt_two_pow hx hy
  refine ⟨x ^^^ y, hz, ?_⟩
  show IntKind.i64.wrap ((BitVec.ofInt 64 (x : Int) ^^^ BitVec.ofInt 64 (y : Int)).toNat : Int) = _
  rw [BitVec.toNat_xor, e x hx, e y hy]
  exact IntWalk.i64_in _ (by omega)

/-- The mixture past the code's end is a number that is not great. -/
theorem mixture (u v k d : Int) (hu : 0 ≤ u ∧ u ≤ 255) (hv : 0 ≤ v ∧ v ≤ 255) (hk : 0 ≤ k ∧ k ≤ 100000) (hd : 0 ≤ d ∧ d ≤ 100000) :
    ∃ x : Nat, wrap64 (u * 131 + v * 1117 + k * 29 + wrap64 (wrap64 d * 53)) = (x : Int) ∧ x ≤ 1000000000 := by
  rw [IntWalk.wrap64_in d (by omega), IntWalk.wrap64_in (d * 53) (by omega), IntWalk.wrap64_in (u * 131 + v * 1117 + k * 29 + d * 53) (by omega)]
  exact ⟨(u * 131 + v * 1117 + k * 29 + d * 53).toNat, by omega, by omega⟩

theorem pick_c (b off rb : Nat) (n c k i1 i2 : Nat) (m u1 u2 : Int) (w : World) (hn : 0 < n) (hn2 : n ≤ 2000) (hk : n ≤ k) (hk2 : k ≤ 100000) (hm : 1 ≤ m) (hm2 : m ≤ 100000)
    (h0 : w.cell? ⟨rb, 0, none⟩ = some (.slice (some ⟨b, off, none⟩) n c)) (h1 : w.cell? ⟨rb, 1, none⟩ = some (.int .i64 k)) (hf : w.frozen? ⟨rb, 1, none⟩ = false)
    (hne : b ≠ rb) (hu1 : 0 ≤ u1 ∧ u1 ≤ 255) (hu2 : 0 ≤ u2 ∧ u2 ≤ 255) (l1 : i1 < n) (l2 : i2 < n) (q1 : (k : Int).tmod (n : Int) = (i1 : Int)) (q4 : ((k : Int) * 7 + 3).tmod (n : Int) = (i2 : Int))
    (g1 : w.cell? ⟨b, off + i1, none⟩ = some (.int .u8 u1)) (g2 : w.cell? ⟨b, off + i2, none⟩ = some (.int .u8 u2)) :
    Calls Try.prog 35 #[.pointer (some ⟨rb, 0, none⟩), .int .i64 m] w fun e w' => (∃ v : Int, e = .returned (.int .i64 v) ∧ 0 ≤ v ∧ v < m) ∧ ∃ d, w' = (w.setCell ⟨rb, 1, none⟩ (.int .i64 (k + 1))).drewN d := by
  have hn0 : ((n : Int) == 0) = false := by simp; omega
  have hm0 : ¬ m < 1 := by omega
  have hkn : ¬ k < n := by omega
  have q2 : IntKind.i64.wrap ((k : Int) * 7) = (k : Int) * 7 := IntWalk.i64_in _ (by omega)
  have q3 : IntKind.i64.wrap ((k : Int) * 7 + 3) = (k : Int) * 7 + 3 := IntWalk.i64_in _ (by omega)
  have hnn : ¬ n = 0 := by omega
  go_enter Try.func35, Try.ntmps35
  go_wp2
  go_quiet (fail)
  obtain ⟨x, hx, hxb⟩ := mixture u1 u2 k ((k : Int) / (n : Int)) hu1 hu2 (by omega) ⟨Int.ediv_nonneg (by omega) (by omega), Int.le_trans (Int.ediv_le_self _ (by omega)) (by omega)⟩
  rw [hx]
  clear hx q1 q4 q2 q3
  obtain ⟨y, hyb, hy⟩ := xor_small x (x / 64) (by omega) (by omega)
  rw [show ((x / 64 : Nat) : Int) = (x : Int) / 64 from rfl] at hy
  have r0 : 0 ≤ (y : Int) % m := Int.emod_nonneg _ (by omega)
  have r1 : (y : Int) % m < m := Int.emod_lt_of_pos _ (by omega)
  have hmn : ¬ m = 0 := by omega
  go_wp2
  go_ret
  exact ⟨⟨_, rfl, r0, r1⟩, _, rfl⟩

theorem pick_b (b off rb : Nat) (n c k : Nat) (m u1 : Int) (w : World) (hn2 : n ≤ 2000) (hk : k < n) (hm : 1 ≤ m) (hm2 : m ≤ 100000)
    (h0 : w.cell? ⟨rb, 0, none⟩ = some (.slice (some ⟨b, off, none⟩) n c)) (h1 : w.cell? ⟨rb, 1, none⟩ = some (.int .i64 k)) (hf : w.frozen? ⟨rb, 1, none⟩ = false)
    (hne : b ≠ rb) (hu1 : 0 ≤ u1 ∧ u1 ≤ 255) (g1 : w.cell? ⟨b, off + k, none⟩ = some (.int .u8 u1)) :
    Calls Try.prog 35 #[.pointer (some ⟨rb, 0, none⟩), .int .i64 m] w fun e w' => (∃ v : Int, e = .returned (.int .i64 v) ∧ 0 ≤ v ∧ v < m) ∧ ∃ d, w' = (w.setCell ⟨rb, 1, none⟩ (.int .i64 (k + 1))).drewN d := by
  have hn0 : ((n : Int) == 0) = false := by simp; omega
  have hm0 : ¬ m < 1 := by omega
  have hnn : ¬ n = 0 := by omega
  have hmn : ¬ m = 0 := by omega
  have r0 : 0 ≤ u1 % m := Int.emod_nonneg _ (by omega)
  have r1 : u1 % m < m := Int.emod_lt_of_pos _ (by omega)
  go_enter Try.func35, Try.ntmps35
  go_wp2
  go_ret
  exact ⟨⟨_, rfl, r0, r1⟩, 0, rfl⟩

theorem pick_0 (A : Option Addr) (rb c k : Nat) (m : Int) (w : World) (hk : k ≤ 100000) (hm : 1 ≤ m) (hm2 : m ≤ 100000)
    (h0 : w.cell? ⟨rb, 0, none⟩ = some (.slice A 0 c)) (h1 : w.cell? ⟨rb, 1, none⟩ = some (.int .i64 k)) (hf : w.frozen? ⟨rb, 1, none⟩ = false) :
    Calls Try.prog 35 #[.pointer (some ⟨rb, 0, none⟩), .int .i64 m] w fun e w' => (∃ v : Int, e = .returned (.int .i64 v) ∧ 0 ≤ v ∧ v < m) ∧ ∃ d, w' = (w.setCell ⟨rb, 1, none⟩ (.int .i64 (k + 1))).drewN d := by
  have hm0 : ¬ m < 1 := by omega
  go_enter Try.func35, Try.ntmps35
  go_wp2
  go_ret
  exact ⟨⟨0, rfl, by omega, by omega⟩, 0, rfl⟩

/-- A reader lies at block rb, at a place of at most N; its code lies in an older block. -/
def Reader (w : World) (rb N : Nat) : Prop :=
  ∃ (A : Option Addr) (n c k : Nat), n ≤ 2000 ∧ n ≤ c ∧ k ≤ N ∧ w.heap[rb]? = some (.cells #[.slice A n c, .int .i64 k] 88 (0, 0)) ∧
    (0 < n → ∃ b off, A = some ⟨b, off, none⟩ ∧ b < rb ∧ ∀ j, j < n → ∃ u : Int, (0 ≤ u ∧ u ≤ 255) ∧ w.cell? ⟨b, off + j, none⟩ = some (.int .u8 u))

theorem Reader.lt {w : World} {rb N : Nat} (h : Reader w rb N) : rb < w.heap.size := by
  obtain ⟨_, _, _, _, _, _, _, hh, _⟩ := h
  exact (Array.getElem?_eq_some_iff.1 hh).1

theorem Reader.mono {w : World} {rb N N' : Nat} (h : Reader w rb N) (hN : N ≤ N') : Reader w rb N' := by
  obtain ⟨A, n, c, k, h1, h2, h3, h4, h5⟩ := h
  exact ⟨A, n, c, k, h1, h2, by omega, h4, h5⟩

/-- What leaves the blocks up to rb alone keeps the reader. -/
theorem Reader.keep {w w' : World} {rb N : Nat} (h : Reader w rb N) (hk : ∀ b, b ≤ rb → w'.heap[b]? = w.heap[b]?) : Reader w' rb N := by
  obtain ⟨A, n, c, k, h1, h2, h3, h4, h5⟩ := h
  refine ⟨A, n, c, k, h1, h2, h3, (hk rb (Nat.le_refl _)).trans h4, fun hn => ?_⟩
  obtain ⟨b, off, e, hb, hc⟩ := h5 hn
  refine ⟨b, off, e, hb, fun j hj => ?_⟩
  obtain ⟨u, hu, hcell⟩ := hc j hj
  exact ⟨u, hu, (World.cell?_of_block (hk b (by omega))).trans hcell⟩

theorem Reader.alloc {w : World} {rb N : Nat} (h : Reader w rb N) (o : Obj) : Reader (w.alloc o) rb N :=
  h.keep fun b hb => Below.heap_alloc w o b (by have := h.lt; omega)
theorem Reader.drewN {w : World} {rb N : Nat} (h : Reader w rb N) (d : Nat) : Reader (w.drewN d) rb N := h
theorem Reader.grown {w w' : World} {rb N : Nat} {row : Option Nat} (h : Reader w rb N) (hg : w.grownBy w' row) (hr : ∀ k, row = some k → rb < k) : Reader w' rb N :=
  h.keep fun b hb => hg.block b (by have := h.lt; omega) (fun e => by have := hr b e.symm; omega)
theorem Reader.below {w w' : World} {rb N B : Nat} (h : Reader w rb N) (hg : Below B w w') (hr : rb < B) : Reader w' rb N :=
  h.keep fun b hb => hg.block b (by omega)

/-- What a draw does: old blocks but the reader's are as they were. -/
def Drawn (rb : Nat) (w w' : World) : Prop := w.grownBy w' (some rb)

def PickPost (m : Int) (rb N : Nat) (w : World) (e : Ending) (w' : World) : Prop :=
  ∃ v : Int, e = .returned (.int .i64 v) ∧ 0 ≤ v ∧ v < m ∧ Reader w' rb (N + 1) ∧ w.grownBy w' (some rb) ∧ w'.heap.size = w.heap.size

theorem pick_post {w : World} {rb N : Nat} {A : Option Addr} {n c k : Nat} {m : Int} {e : Ending} {w' : World} (h1 : n ≤ 2000) (h2 : n ≤ c) (h3 : k ≤ N)
    (h4 : w.heap[rb]? = some (.cells #[.slice A n c, .int .i64 k] 88 (0, 0)))
    (h5 : 0 < n → ∃ b off, A = some ⟨b, off, none⟩ ∧ b < rb ∧ ∀ j, j < n → ∃ u : Int, (0 ≤ u ∧ u ≤ 255) ∧ w.cell? ⟨b, off + j, none⟩ = some (.int .u8 u))
    (h : (∃ v : Int, e = .returned (.int .i64 v) ∧ 0 ≤ v ∧ v < m) ∧ ∃ d, w' = (w.setCell ⟨rb, 1, none⟩ (.int .i64 (k + 1))).drewN d) : PickPost m rb N w e w' := by
  obtain ⟨⟨v, he, hv0, hv1⟩, d, rfl⟩ := h
  have far : ∀ i, i ≠ rb → (w.setCell ⟨rb, 1, none⟩ (.int .i64 (k + 1))).heap[i]? = w.heap[i]? := fun i hi => Below.heap_setCell _ _ _ _ hi
  have hsz : ((w.setCell ⟨rb, 1, none⟩ (.int .i64 (k + 1))).drewN d).heap.size = w.heap.size := by
    show (w.setCell ⟨rb, 1, none⟩ (.int .i64 (k + 1))).heap.size = _
    simp [World.setCell]
  refine ⟨v, he, hv0, hv1, ⟨A, n, c, k + 1, h1, h2, by omega, ?_, fun hn => ?_⟩, ⟨rfl, rfl, rfl, by rw [hsz]; exact Nat.le_refl _, fun i _ hne => far i (fun e => hne (by rw [e]))⟩, hsz⟩
  · show (w.setCell ⟨rb, 1, none⟩ (.int .i64 (k + 1))).heap[rb]? = _
    simp [World.setCell, Array.getElem?_modify, h4]
  · obtain ⟨b, off, e, hb, hc⟩ := h5 hn
    refine ⟨b, off, e, hb, fun j hj => ?_⟩
    obtain ⟨u, hu, hcell⟩ := hc j hj
    exact ⟨u, hu, (World.cell?_of_block (far b (by omega))).trans hcell⟩

/-- The contract of pick: a number from 0 to m-1; the reader has moved on by one. -/
theorem pick (rb N : Nat) (m : Int) (w : World) (hr : Reader w rb N) (hN : N ≤ 100000) (hm : 1 ≤ m) (hm2 : m ≤ 100000) :
    Calls Try.prog 35 #[.pointer (some ⟨rb, 0, none⟩), .int .i64 m] w (PickPost m rb N w) := by
  obtain ⟨A, n, c, k, h1, h2, h3, h4, h5⟩ := hr
  have c0 : w.cell? ⟨rb, 0, none⟩ = some (.slice A n c) := by rw [cell_of_row w rb 0 _ _ _ h4]; rfl
  have c1 : w.cell? ⟨rb, 1, none⟩ = some (.int .i64 k) := by rw [cell_of_row w rb 1 _ _ _ h4]; rfl
  have fr : w.frozen? ⟨rb, 1, none⟩ = false := by simp [World.frozen?, h4]
  rcases Nat.eq_zero_or_pos n with rfl | hn
  · exact (pick_0 A rb c k m w (by omega) hm hm2 c0 c1 fr).mono fun _ _ h => pick_post h1 h2 h3 h4 h5 h
  · have H5 := h5
    obtain ⟨b, off, rfl, hb, hc⟩ := h5 hn
    by_cases hk : k < n
    · obtain ⟨u, hu, g⟩ := hc k hk
      exact (pick_b b off rb n c k m u w h1 hk hm hm2 c0 c1 fr (by omega) hu g).mono fun _ _ h => pick_post h1 h2 h3 h4 H5 h
    · obtain ⟨u, hu, g⟩ := hc (k % n) (Nat.mod_lt _ hn)
      obtain ⟨u', hu', g'⟩ := hc ((k * 7 + 3) % n) (Nat.mod_lt _ hn)
      exact (pick_c b off rb n c k (k % n) ((k * 7 + 3) % n) m u u' w hn h1 (by omega) (by omega) hm hm2 c0 c1 fr (by omega) hu hu' (Nat.mod_lt _ hn) (Nat.mod_lt _ hn)
        (by rw [Int.tmod_eq_emod_of_nonneg (by omega)]; rfl) (by rw [Int.tmod_eq_emod_of_nonneg (by omega)]; rfl) g g').mono fun _ _ h => pick_post h1 h2 h3 h4 H5 h

end Rd
end Go.Proofs.Ytnjcpbkpcmemeac

/-
  Contracts of the functions that draw secrets, elements, keys and factors out of a code.
-/
namespace Go.Proofs.Ytnjcpbkpcmemeac
open Go.RowKit
namespace Rd
open Il

/-- What a reader's code must be. -/
def CodeIs (w : World) (A : Option Addr) (n c : Nat) : Prop :=
  n ≤ c ∧ c ≤ maxLen ∧ (0 < n → ∃ b off, A = some ⟨b, off, none⟩ ∧ b < w.heap.size ∧ ∀ j, j < n → ∃ u : Int, (0 ≤ u ∧ u ≤ 255) ∧ w.cell? ⟨b, off + j, none⟩ = some (.int .u8 u))

theorem code_of_row {w : World} {A : Option Addr} {n c : Nat} {zs : List Int} (h : IsRow .u8 w A n c zs) : CodeIs w A n c := by
  rcases h with ⟨rfl, rfl, rfl, rfl⟩ | ⟨x, rfl, hl, hm, hz, hcell, hwf⟩
  · exact ⟨Nat.le_refl _, Nat.zero_le _, fun h => absurd h (by omega)⟩
  · refine ⟨hl, hm, fun hn => ?_⟩
    obtain ⟨b, off, spot⟩ := x
    have h0 := hcell 0 (by omega)
    have hs : spot = none := by simpa [Addr.add] using World.cell?_spot h0
    subst hs
    refine ⟨b, off, rfl, ?_, fun j hj => ?_⟩
    · have := World.block_lt_of_cell? w _ h0
      simpa [Addr.add] using this
    · have hj' : j < zs.length := by omega
      have hc := hcell j hj'
      refine ⟨zs.getD j 0, ?_, ?_⟩
      · have hw := hwf (zs.getD j 0) (by rw [List.getD_eq_getElem?_getD, List.getElem?_eq_getElem hj']; exact List.getElem_mem hj')
        exact bounds_u8 hw
      · have e : (Addr.add ⟨b, off, none⟩ j) = ⟨b, off + j, none⟩ := by
          unfold Addr.add; split <;> simp_all
        rw [← e]; exact hc

def OpenPost (w : World) (e : Ending) (w' : World) : Prop :=
  e = .returned (.pointer (some ⟨w.heap.size, 0, none⟩)) ∧ Reader w' w.heap.size 0 ∧ Below w.heap.size w w' ∧ w'.heap.size = w.heap.size + 1

theorem reader_new {w : World} {A : Option Addr} {n c n' : Nat} (h : CodeIs w A n c) (hn : n' ≤ n) (h2 : n' ≤ 2000) :
    Reader (w.alloc (.cells #[.slice A n' c, .int .i64 0] 88)) w.heap.size 0 := by
  refine ⟨A, n', c, 0, h2, by have := h.1; omega, Nat.le_refl _, heap_alloc_new _ _, fun h0 => ?_⟩
  obtain ⟨b, off, e, hb, hc⟩ := h.2.2 (by omega)
  refine ⟨b, off, e, hb, fun j hj => ?_⟩
  obtain ⟨u, hu, hcell⟩ := hc j (by omega)
  exact ⟨u, hu, (World.cell?_of_block (Below.heap_alloc w _ b hb)).trans hcell⟩

theorem l6Open (A : Option Addr) (n c : Nat) (w : World) (h : CodeIs w A n c) :
    Calls Try.prog 33 #[.slice A n c] w (OpenPost w) := by
  have hl := h.1
  have hm := h.2.1
  unfold maxLen at hm
  by_cases hn : 2000 < n
  · have hpost : OpenPost w (.returned (.pointer (some ⟨w.heap.size, 0, none⟩))) (w.alloc (.cells #[.slice A 2000 c, .int .i64 0] 88)) :=
      ⟨rfl, reader_new h (by omega) (Nat.le_refl _), (Below.refl _ _).alloc (Nat.le_refl _) _, by simp⟩
    have H := Lib.hid hpost
    clear hpost h
    go_enter Try.func33, Try.ntmps33
    go_wp2
    go_ret
    exact H.out
  · have hpost : OpenPost w (.returned (.pointer (some ⟨w.heap.size, 0, none⟩))) (w.alloc (.cells #[.slice A n c, .int .i64 0] 88)) :=
      ⟨rfl, reader_new h (Nat.le_refl _) (by omega), (Below.refl _ _).alloc (Nat.le_refl _) _, by simp⟩
    have H := Lib.hid hpost
    clear hpost h
    go_enter Try.func33, Try.ntmps33
    go_wp2
    go_ret
    exact H.out

/-- A number between lo and hi is drawn; the reader has moved on. -/
def NumPost (lo hi : Int) (rb N : Nat) (w : World) (e : Ending) (w' : World) : Prop :=
  ∃ v : Int, e = .returned (.int .i64 v) ∧ lo ≤ v ∧ v ≤ hi ∧ Reader w' rb N ∧ w.grownBy w' (some rb)

theorem l91Is (rb N : Nat) (w : World) (hr : Reader w rb N) (hN : N ≤ 90000) :
    Calls Try.prog 67 #[.pointer (some ⟨rb, 0, none⟩)] w (NumPost (-1) 997 rb (N + 3) w) := by
  have HR := Lib.hid hr
  have hlt := hr.lt
  clear hr
  go_enter Try.func67, Try.ntmps67
  go_wp2_with fail
  ((with_reducible refine (pick rb N _ _ HR.out (by omega) (by omega) (by omega)).mono ?_); rintro e w1 ⟨v1, rfl, hv0, hv1, r1, g1, s1⟩)
  have R1 := Lib.hid r1
  have G1 := Lib.hid g1
  have l1 : rb < w1.heap.size := r1.lt
  clear r1 g1 s1
  by_cases hz : v1 = 0
  · subst hz
    go_wp2_with fail
    ((with_reducible refine (pick rb (N + 1) _ _ (R1.out.alloc _) (by omega) (by omega) (by omega)).mono ?_); rintro e w2 ⟨v2, rfl, hu0, hu1, r2, g2, s2⟩)
    have hb := (g2.block w1.heap.size (by simp) (by simp; omega)).trans (heap_alloc_new w1 _)
    have k0 := cell_of_row w2 w1.heap.size 0 _ _ _ hb
    have k1 := cell_of_row w2 w1.heap.size 1 _ _ _ hb
    have k2 := cell_of_row w2 w1.heap.size 2 _ _ _ hb
    have k3 := cell_of_row w2 w1.heap.size 3 _ _ _ hb
    simp only [List.getElem?_toArray, List.getElem?_cons_zero, List.getElem?_cons_succ] at k0 k1 k2 k3
    have hpost : ∀ v : Int, -1 ≤ v → v ≤ 997 → NumPost (-1) 997 rb (N + 3) w (.returned (.int .i64 v)) w2 := fun v a b =>
      ⟨v, rfl, a, b, r2.mono (by omega), grown_trans (grown_alloc G1.out _) g2⟩
    have H := Lib.hid hpost
    clear hpost hb r2 g2 s2
    obtain rfl | rfl | rfl | rfl : v2 = 0 ∨ v2 = 1 ∨ v2 = 2 ∨ v2 = 3 := by omega
    all_goals
      go_wp2
      go_ret
      exact H.out _ (by omega) (by omega)
  · have hz' : (v1 == 0) = false := by simpa using hz
    clear hz
    go_wp2_with fail
    ((with_reducible refine (pick rb (N + 1) _ _ R1.out (by omega) (by omega) (by omega)).mono ?_); rintro e w2 ⟨v2, rfl, hu0, hu1, r2, g2, s2⟩)
    have R2 := Lib.hid r2
    have G2 := Lib.hid (grown_trans G1.out g2)
    clear r2 g2 s2
    go_wp2_with fail
    ((with_reducible refine (pick rb (N + 1 + 1) _ _ R2.out (by omega) (by omega) (by omega)).mono ?_); rintro e w3 ⟨v3, rfl, hx0, hx1, r3, g3, s3⟩)
    have hpost : ∀ v : Int, -1 ≤ v → v ≤ 997 → NumPost (-1) 997 rb (N + 3) w (.returned (.int .i64 v)) w3 := fun v a b =>
      ⟨v, rfl, a, b, r3.mono (by omega), grown_trans G2.out g3⟩
    have H := Lib.hid hpost
    clear hpost r3 g3 s3
    go_wp2
    go_ret
    exact H.out _ (by omega) (by omega)

/-- One number is drawn out of a code; nothing that was there has turned. -/
def OnePost (lo hi : Int) (w : World) (e : Ending) (w' : World) : Prop :=
  ∃ v : Int, e = .returned (.int .i64 v) ∧ lo ≤ v ∧ v ≤ hi ∧ Below w.heap.size w w'
/-- Two numbers. -/
def TwoPost (lo hi : Int) (w : World) (e : Ending) (w' : World) : Prop :=
  ∃ v u : Int, e = .returned (.tuple #[.int .i64 v, .int .i64 u]) ∧ lo ≤ v ∧ v ≤ hi ∧ lo ≤ u ∧ u ≤ hi ∧ Below w.heap.size w w'





end Rd
end Go.Proofs.Ytnjcpbkpcmemeac

/-
  Contracts of the functions that draw numbers and lists out of a code.
-/
namespace Go.Proofs.Ytnjcpbkpcmemeac
open Go.RowKit
namespace Rd
open Il

/-- A list is drawn. -/
def ListPost (most : Nat) (rb N : Nat) (w : World) (e : Ending) (w' : World) : Prop :=
  ∃ A c xs, e = .returned (.slice A xs.length c) ∧ xs.length ≤ most + 2 ∧ (∀ x ∈ xs, -1 ≤ x ∧ x ≤ 991) ∧ Own w.heap.size w'.heap.size w' A xs.length c xs ∧ Reader w' rb N ∧ w.grownBy w' (some rb)

/-- What the loop of l91List has gathered. -/
def Gath (rb N : Nat) (w wr : World) (v : Value) (k : Nat) : Prop :=
  ∃ ys : List Int, ys.length = k ∧ (∀ x ∈ ys, -1 ≤ x ∧ x ≤ 991) ∧ AccR (some rb) w wr v ys ∧ Reader wr rb (N + 3 * k)

theorem gath_loop (rb N most : Nat) (w : World) (v : Value) (k : Nat) (wr : World) (hk : k ≤ most + 2) (h : Gath rb N w wr v k) : ListPost most rb (N + 3 * (most + 2)) w (.returned v) wr := by
  obtain ⟨ys, hl, hb, ha, hr⟩ := h
  obtain ⟨A, c, rfl, ho⟩ := own_of ha.1
  exact ⟨A, c, ys, rfl, by omega, hb, ho, hr.mono (by omega), ha.2⟩

/-- A key and a number are drawn. -/
def KeyNumPost (w : World) (e : Ending) (w' : World) : Prop :=
  ∃ k n : Int, e = .returned (.tuple #[.int .i64 k, .int .i64 n]) ∧ -1 ≤ k ∧ k ≤ 997 ∧ -2 ≤ n ∧ n ≤ 25 ∧ Below w.heap.size w w'
/-- A list and a key are drawn. -/
def ListKeyPost (w : World) (e : Ending) (w' : World) : Prop :=
  ∃ A c xs, ∃ k : Int, e = .returned (.tuple #[.slice A xs.length c, .int .i64 k]) ∧ xs.length ≤ 26 ∧ (∀ x ∈ xs, -1 ≤ x ∧ x ≤ 991) ∧ -1 ≤ k ∧ k ≤ 997 ∧ Own w.heap.size w'.heap.size w' A xs.length c xs ∧ Below w.heap.size w w'




end Rd
end Go.Proofs.Ytnjcpbkpcmemeac
