/-
  Slices of structs in memory: cells that read as lists of values; pools of peeled packets. Nothing of any program.
-/
import Derived.Test.YtnjcpbkpcmemeacRw
import Derived.Test.YtnjcpbkpcmemeacPq
import Derived.Test.YtnjcpbkpcmemeacHlp5
namespace Go.Proofs.Ytnjcpbkpcmemeac
open Go.RowKit
namespace Sl
open Il Pm Pq Hlp5

/-- A peeled packet with its two slices, and the blocks that they lie in (where that is asked). -/
structure Slot where
  p : Pld
  A : Option Addr
  c : Nat
  B : Option Addr
  d : Nat
  h : Nat
  g : Nat
def Slot.cells (s : Slot) : List Value := [.int .i64 s.p.kind, .int .i64 s.p.next, .int .i64 s.p.pk.el, .slice s.A s.p.pk.hd.length s.c, .int .i64 s.p.pk.tag, .slice s.B s.p.pk.bd.length s.d]
theorem cells_len (s : Slot) : s.cells.length = 6 := rfl
def SlotR (lo hi : Nat) (w : World) (s : Slot) : Prop := Ints lo hi w s.A s.p.pk.hd.length s.c s.p.pk.hd ∧ Ints lo hi w s.B s.p.pk.bd.length s.d s.p.pk.bd
/-- A pool of peeled packets that can be read; all of it lies from lo on, below hi. -/
def Pool (lo hi : Nat) (w : World) (A : Option Addr) (n c : Nat) (ps : List Pld) : Prop :=
  ∃ ss : List Slot, ss.map (·.p) = ps ∧ Row lo hi w A n c 6 (ss.flatMap Slot.cells) ∧ ∀ s ∈ ss, SlotR lo hi w s

section
variable {lo hi lo' hi' : Nat} {w w' : World} {A : Option Addr} {n c : Nat} {ps : List Pld}
theorem SlotR.keep {s : Slot} (h : SlotR lo hi w s) (hs : w.heap.size ≤ w'.heap.size) (hk : ∀ b, lo ≤ b → b < hi → b < w.heap.size → w'.heap[b]? = w.heap[b]?) : SlotR lo hi w' s := ⟨h.1.keep hs hk, h.2.keep hs hk⟩
theorem Pool.keep (h : Pool lo hi w A n c ps) (hs : w.heap.size ≤ w'.heap.size) (hk : ∀ b, lo ≤ b → b < hi → b < w.heap.size → w'.heap[b]? = w.heap[b]?) : Pool lo hi w' A n c ps := by
  obtain ⟨ss, h1, h2, h3⟩ := h
  exact ⟨ss, h1, h2.keep hs hk, fun s hs' => (h3 s hs').keep hs hk⟩
theorem Pool.mono (h : Pool lo hi w A n c ps) (h1 : lo' ≤ lo) (h2 : hi ≤ hi') : Pool lo' hi' w A n c ps := by
  obtain ⟨ss, e1, e2, e3⟩ := h
  exact ⟨ss, e1, e2.mono h1 h2, fun s hs => ⟨(e3 s hs).1.mono h1 h2, (e3 s hs).2.mono h1 h2⟩⟩
theorem Pool.below {B : Nat} (h : Pool lo hi w A n c ps) (hb : Below B w w') (hB : w.heap.size ≤ B) : Pool lo hi w' A n c ps := h.keep hb.size fun b _ _ hz => hb.block b (by omega)
theorem Pool.kept {l2 h2 : Nat} (h : Pool lo hi w A n c ps) (hk : Kept l2 h2 w w') (hd : hi ≤ l2 ∨ h2 ≤ lo) : Pool lo hi w' A n c ps := h.keep (Nat.le_of_eq hk.size.symm) fun b h1 h2 _ => hk.block b (by omega)
theorem Pool.grown {row : Option Nat} (h : Pool lo hi w A n c ps) (hg : w.grownBy w' row) (hr : ∀ k, row = some k → k < lo ∨ hi ≤ k) : Pool lo hi w' A n c ps :=
  h.keep hg.size fun b h1 h2 hz => hg.block b hz (fun e => by have := hr b e.symm; omega)
theorem Pool.drewN (h : Pool lo hi w A n c ps) (d : Nat) : Pool lo hi (w.drewN d) A n c ps := h
theorem ints_top' {xs : List Int} (h : Ints lo hi w A n c xs) (hl : lo' ≤ lo) : Ints lo' w.heap.size w A n c xs :=
  ⟨h.1, h.2.1, h.2.2.1, fun hn => by
    obtain ⟨b, off, e, h1, _, hz, hc⟩ := h.2.2.2 hn
    exact ⟨b, off, e, by omega, hz, hz, hc⟩⟩
theorem Pool.top (h : Pool lo hi w A n c ps) (hl : lo' ≤ lo) : Pool lo' w.heap.size w A n c ps := by
  obtain ⟨ss, e1, e2, e3⟩ := h
  exact ⟨ss, e1, e2.top hl, fun s hs => ⟨ints_top' (e3 s hs).1 hl, ints_top' (e3 s hs).2 hl⟩⟩
theorem Pool.len_ (h : Pool lo hi w A n c ps) : ps.length = n := by
  obtain ⟨ss, rfl, h2, _⟩ := h
  have := h2.1
  rw [flat_len cells_len] at this
  rw [List.length_map]; omega
theorem Pool.cap_ (h : Pool lo hi w A n c ps) : n ≤ c := by
  obtain ⟨ss, _, h2, _⟩ := h
  exact h2.2.1
theorem Pool.max_ (h : Pool lo hi w A n c ps) : c ≤ maxLen := by
  obtain ⟨ss, _, h2, _⟩ := h
  exact h2.2.2.1
theorem Pool.nil_ (hc : c ≤ maxLen) : Pool lo hi w A 0 c [] := ⟨[], rfl, Row.nil_ hc, fun _ h => by simp at h⟩
theorem Pool.take {k : Nat} (h : Pool lo hi w A n c ps) (hk : k ≤ n) : Pool lo hi w A k c (ps.take k) := by
  obtain ⟨ss, rfl, h2, h3⟩ := h
  exact ⟨ss.take k, by rw [List.map_take], by rw [flat_take cells_len]; exact h2.take hk, fun s hs => h3 s (List.mem_of_mem_take hs)⟩

def pldAt (ps : List Pld) (k : Nat) : Pld := ps.getD k Pld.zero
/-- One place of a pool. -/
theorem Pool.at_ {k : Nat} (h : Pool lo hi w A n c ps) (hk : k < n) : ∃ b off H e G f, A = some ⟨b, off, none⟩ ∧ lo ≤ b ∧ b < hi ∧
    w.cell? ⟨b, off + k * 6, none⟩ = some (.int .i64 (pldAt ps k).kind) ∧ w.cell? ⟨b, off + k * 6 + 1, none⟩ = some (.int .i64 (pldAt ps k).next) ∧ w.cell? ⟨b, off + k * 6 + 2, none⟩ = some (.int .i64 (pldAt ps k).pk.el) ∧
    w.cell? ⟨b, off + k * 6 + 3, none⟩ = some (.slice H (pldAt ps k).pk.hd.length e) ∧ w.cell? ⟨b, off + k * 6 + 4, none⟩ = some (.int .i64 (pldAt ps k).pk.tag) ∧ w.cell? ⟨b, off + k * 6 + 5, none⟩ = some (.slice G (pldAt ps k).pk.bd.length f) ∧
    Ints lo hi w H (pldAt ps k).pk.hd.length e (pldAt ps k).pk.hd ∧ Ints lo hi w G (pldAt ps k).pk.bd.length f (pldAt ps k).pk.bd := by
  have hl := h.len_
  obtain ⟨ss, rfl, h2, h3⟩ := h
  rw [List.length_map] at hl
  have hx : ss[k]? = some (ss[k]'(by omega)) := List.getElem?_eq_getElem (by omega)
  have hp : pldAt (ss.map (·.p)) k = (ss[k]'(by omega)).p := by
    unfold pldAt
    rw [List.getD_eq_getElem?_getD, List.getElem?_map, hx]; rfl
  obtain ⟨b, off, rfl, hb, hb', hz, hc⟩ := h2.2.2.2 (by omega)
  have hm := h3 _ (List.mem_of_getElem? hx)
  rw [hp]
  generalize ss[k]'(by omega) = s at *
  have hcell : ∀ i v, i < 6 → s.cells[i]? = some v → w.cell? ⟨b, off + k * 6 + i, none⟩ = some v := fun i v hi hv => by
    rw [Nat.add_assoc]
    exact hc _ v (by rw [flat_at cells_len hx hi]; exact hv)
  exact ⟨b, off, s.A, s.c, s.B, s.d, rfl, hb, hb', hcell 0 _ (by omega) rfl, hcell 1 _ (by omega) rfl, hcell 2 _ (by omega) rfl, hcell 3 _ (by omega) rfl, hcell 4 _ (by omega) rfl, hcell 5 _ (by omega) rfl, hm.1, hm.2⟩
end

/-- A mix's data. -/
structure Mx where
  sec : Int
  seen : List Int
  pool : List Pld
def Mx.zero : Mx := ⟨0, [], []⟩
/-- A mix that can be read. -/
def MixR (lo hi : Nat) (w : World) (A : Option Addr) (n c : Nat) (B : Option Addr) (m d : Nat) (x : Mx) : Prop := Ints lo hi w A n c x.seen ∧ Pool lo hi w B m d x.pool

end Sl
end Go.Proofs.Ytnjcpbkpcmemeac
