/-
  The program's slots of epochs: linked structs, each with a list of its own.
-/
import Derived.Test.YtmmnpmfkpieoiaaGk
import Derived.Test.YtmmnpmfkpieoiaaSg
namespace Go.Proofs.Ytmmnpmfkpieoiaa
open Go.RowKit
namespace Im8
open Il Sl Fo Cm Cs Sg Gm

/-- A list of keys that can be appended to. -/
structure Kd where
  xs : List Int
  A : Option Addr
  c : Nat
  g : Option Nat
def Kd.cell (s : Kd) : Value := .slice s.A s.xs.length s.c
def KdO (w : World) (s : Kd) : Prop := Dest 3 1 s.g w s.cell s.xs.length (s.xs.map (Value.int .i64))
def Kd.sk (s : Kd) : Sk := ⟨s.xs, s.A, s.c, s.g.getD 0⟩
theorem KdO.keep {w w' : World} {s : Kd} (h : KdO w s) (hk : ∀ x ∈ s.g.toList, w'.heap[x]? = w.heap[x]?) : KdO w' s := dest_keep h fun k e => hk k (by rw [e]; simp)
theorem KdO.lt_ {w : World} {s : Kd} (h : KdO w s) : ∀ x ∈ s.g.toList, x < w.heap.size := fun x hx => dest_lt h x (by simpa using hx)
theorem KdO.sk {w : World} {s : Kd} (h : KdO w s) : SkO w s.sk := by
  obtain ⟨A, c, b, e, ho, hk⟩ := dest_ints h
  simp only [Kd.cell, Value.slice.injEq, true_and] at e
  obtain ⟨rfl, rfl⟩ := e
  cases hg : s.g with
  | some k =>
    have := hk k hg
    subst this
    show Il.Own (s.g.getD 0) (s.g.getD 0 + 1) w s.A s.xs.length s.c s.xs
    rw [hg]; exact ho
  | none =>
    have hz : s.xs.length = 0 := by
      rcases h with ⟨_, hz, _⟩ | ⟨k, e, _⟩
      · exact hz
      · rw [hg] at e; cases e
    show Il.Own (s.g.getD 0) (s.g.getD 0 + 1) w s.A s.xs.length s.c s.xs
    rw [hg]
    refine ⟨⟨rfl, ho.1.2.1, ho.1.2.2.1, fun hn => absurd hn (by omega)⟩, fun _ _ hn => absurd hn (by omega)⟩
theorem fpk_sub {w : World} {s : Kd} (h : KdO w s) : ∀ x ∈ fpk s.sk, x ∈ s.g.toList := fun x hx => by
  obtain ⟨hn, rfl⟩ := mem_fp.1 hx
  cases hg : s.g with
  | some k => simp [Kd.sk, hg]
  | none =>
    rcases h with ⟨_, hz, _⟩ | ⟨k, e, _⟩
    · exact absurd hz (by show ¬ s.xs.length = 0; exact Nat.pos_iff_ne_zero.1 hn)
    · rw [hg] at e; cases e

/-- A slot of an epoch: its block, its epoch, its keys. -/
structure Nd where
  b : Nat
  ep : Int
  s : Kd
def NdB (w : World) (nd : Nd) (u : Option Addr) : Prop := Blk w nd.b #[.int .i64 nd.ep, nd.s.cell, .pointer u] 61
/-- Slots linked. -/
def ChN (w : World) : Option Addr → List Nd → Prop
  | a, [] => a = none
  | a, nd :: L => ∃ u, a = some ⟨nd.b, 0, none⟩ ∧ NdB w nd u ∧ KdO w nd.s ∧ ChN w u L
def fpn (nd : Nd) : List (List Nat) := [[nd.b], nd.s.g.toList]
def FpN (L : List Nd) : List (List Nat) := L.flatMap fpn
/-- Slots linked, each thing in a block of its own. -/
def ChG (lo hi : Nat) (w : World) (a : Option Addr) (L : List Nd) : Prop := ChN w a L ∧ Foot (FpN L) ∧ Within lo hi (FpN L)
theorem ChN.keep {w w' : World} {L : List Nd} : ∀ {a : Option Addr}, ChN w a L → (∀ f ∈ FpN L, ∀ x ∈ f, w'.heap[x]? = w.heap[x]?) → ChN w' a L := by
  induction L with
  | nil => exact fun h _ => h
  | cons nd L ih =>
    rintro a ⟨u, e, h1, h2, h3⟩ hk
    refine ⟨u, e, h1.same (hk [nd.b] (by simp [FpN, fpn]) _ (by simp)), h2.keep fun x hx => hk _ (by simp [FpN, fpn]) x hx, ih h3 fun f hf => hk f ?_⟩
    unfold FpN at hf ⊢
    rw [List.flatMap_cons]
    exact List.mem_append.2 (.inr hf)
theorem ChN.lt_ {w : World} {L : List Nd} : ∀ {a : Option Addr}, ChN w a L → ∀ f ∈ FpN L, ∀ x ∈ f, x < w.heap.size := by
  induction L with
  | nil => exact fun _ f hf => by simp [FpN] at hf
  | cons nd L ih =>
    rintro a ⟨u, e, h1, h2, h3⟩ f hf x hx
    unfold FpN at hf
    rw [List.flatMap_cons] at hf
    rcases List.mem_append.1 hf with h | h
    · simp only [fpn, List.mem_cons, List.not_mem_nil, or_false] at h
      rcases h with rfl | rfl
      · simp at hx; subst hx; exact h1.lt
      · exact h2.lt_ x hx
    · exact ih h3 f h x hx
theorem ChG.keep {lo hi : Nat} {w w' : World} {a : Option Addr} {L : List Nd} (h : ChG lo hi w a L) (hk : ∀ x, lo ≤ x → x < hi → x < w.heap.size → w'.heap[x]? = w.heap[x]?) : ChG lo hi w' a L :=
  ⟨h.1.keep fun f hf x hx => hk x (h.2.2 f hf x hx).1 (h.2.2 f hf x hx).2 (h.1.lt_ f hf x hx), h.2⟩
theorem ChG.below {lo hi K : Nat} {w w' : World} {a : Option Addr} {L : List Nd} (h : ChG lo hi w a L) (hb : Below K w w') (hB : w.heap.size ≤ K) : ChG lo hi w' a L := h.keep fun x _ _ hx => hb.block x (by omega)
theorem ChG.mono {lo hi lo' hi' : Nat} {w : World} {a : Option Addr} {L : List Nd} (h : ChG lo hi w a L) (h1 : lo' ≤ lo) (h2 : hi ≤ hi') : ChG lo' hi' w a L := ⟨h.1, h.2.1, h.2.2.mono h1 h2⟩
theorem ChG.nil_ {lo hi : Nat} {w : World} : ChG lo hi w none [] := ⟨rfl, by simp [Foot, FpN], fun f hf => by simp [FpN] at hf⟩
/-- A slot more, in front. -/
theorem ChG.cons_ {lo hi M : Nat} {w : World} {u : Option Addr} {L : List Nd} (h : ChG lo M w u L) (nd : Nd) (hb : NdB w nd u) (hs : KdO w nd.s) (hne : nd.b ∉ nd.s.g.toList) (h1 : M ≤ nd.b) (h2 : ∀ x ∈ nd.s.g.toList, M ≤ x) (hlo : lo ≤ M) (_hM : M ≤ hi) (h3 : nd.b < hi) (h4 : ∀ x ∈ nd.s.g.toList, x < hi) :
    ChG lo hi w (some ⟨nd.b, 0, none⟩) (nd :: L) := by
  refine ⟨⟨u, rfl, hb, hs, h.1⟩, ?_, ?_⟩
  · unfold Foot FpN
    rw [List.flatMap_cons]
    show List.Pairwise Disj ([nd.b] :: nd.s.g.toList :: L.flatMap fpn)
    rw [List.pairwise_cons, List.pairwise_cons]
    refine ⟨fun f hf x q1 q2 => ?_, fun f hf x q1 q2 => ?_, h.2.1⟩
    · simp at q1
      subst q1
      rcases List.mem_cons.1 hf with rfl | hf
      · exact hne q2
      · have := (h.2.2 f hf _ q2).2; omega
    · have := (h.2.2 f hf x q2).2
      have := h2 x q1
      omega
  · intro f hf x hx
    unfold FpN at hf
    rw [List.flatMap_cons] at hf
    rcases List.mem_append.1 hf with h5 | h5
    · simp only [fpn, List.mem_cons, List.not_mem_nil, or_false] at h5
      rcases h5 with rfl | rfl
      · simp at hx; subst hx; omega
      · have := h2 x hx; have := h4 x hx; omega
    · have := h.2.2 f h5 x hx; omega
/-- The cells of the first slot. -/
theorem nd_cells {w : World} {nd : Nd} {u : Option Addr} (h : NdB w nd u) : w.cell? ⟨nd.b, 0, none⟩ = some (.int .i64 nd.ep) ∧ w.cell? ⟨nd.b, 1, none⟩ = some (.slice nd.s.A nd.s.xs.length nd.s.c) ∧ w.cell? ⟨nd.b, 2, none⟩ = some (.pointer u) ∧ ∀ j, w.frozen? ⟨nd.b, j, none⟩ = false := by
  refine ⟨?_, ?_, ?_, fun j => by unfold NdB Blk at h; simp [World.frozen?, h]⟩
  all_goals rw [cell_of_row _ _ _ _ _ _ h]; rfl

end Im8
end Go.Proofs.Ytmmnpmfkpieoiaa
