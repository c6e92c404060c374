/-
  A map from different numbers to their places, in the order in which they came. Nothing of any program.
-/
import Derived.Test.YtcbhjnjallnidabFp
import Derived.Test.YtcbhjnjallnidabMp
namespace Go.Proofs.Ytcbhjnjallnidab
open Go.RowKit
open Go.MapKept Go.ChangeMaps
namespace Nu13
open Fp

/-- The entries: the i-th number and i. -/
def KV : List MapEntry → List Int → Nat → Prop
  | [], [], _ => True
  | e :: es, d :: ds, i => e.key = .int .i64 d ∧ e.val = .int .i64 i ∧ KV es ds (i + 1)
  | _, _, _ => False
theorem kv_len : ∀ {es : List MapEntry} {ds : List Int} {i : Nat}, KV es ds i → es.length = ds.length
  | [], [], _, _ => rfl
  | _ :: es, _ :: ds, i, h => by rw [List.length_cons, List.length_cons, kv_len h.2.2]
theorem kv_push {c : MapEntry} {x : Int} : ∀ {es : List MapEntry} {ds : List Int} {i : Nat}, KV es ds i → c.key = .int .i64 x → c.val = .int .i64 ((i + ds.length : Nat) : Int) → KV (es ++ [c]) (ds ++ [x]) i
  | [], [], i, _, h1, h2 => ⟨h1, by simpa using h2, trivial⟩
  | _ :: es, _ :: ds, i, h, h1, h2 => ⟨h.1, h.2.1, kv_push h.2.2 h1 (by rw [h2, List.length_cons]; congr 1; omega)⟩
theorem find_yes {x : Int} : ∀ {es : List MapEntry} {ds : List Int} {i : Nat} (j : Nat), KV es ds i → x ∈ ds → Instr.findNow (.int .i64) (.int .i64 x) es j = some (some (j + ix x ds, .int .i64 ((i + ix x ds : Nat) : Int)))
  | [], [], _, _, _, hm => absurd hm (by simp)
  | e :: es, d :: ds, i, j, h, hm => by
    obtain ⟨h1, h2, h3⟩ := h
    unfold Instr.findNow ix
    by_cases hd : d = x
    · have hs : Instr.sameNow (.int .i64) (.int .i64 x) e.key = some true := by rw [h1]; simp [Instr.sameNow, hd]
      rw [hs, if_pos hd]
      simp [h2]
    · have hs : Instr.sameNow (.int .i64) (.int .i64 x) e.key = some false := by rw [h1]; simp [Instr.sameNow, Ne.symm hd]
      rw [hs, if_neg hd]
      have hm2 : x ∈ ds := by
        rcases List.mem_cons.1 hm with q | q
        · exact absurd q.symm hd
        · exact q
      show Instr.findNow (.int .i64) (.int .i64 x) es (j + 1) = _
      rw [find_yes (j + 1) h3 hm2, show j + 1 + ix x ds = j + (ix x ds + 1) by omega, show i + 1 + ix x ds = i + (ix x ds + 1) by omega]
theorem find_no {x : Int} : ∀ {es : List MapEntry} {ds : List Int} {i : Nat} (j : Nat), KV es ds i → x ∉ ds → Instr.findNow (.int .i64) (.int .i64 x) es j = some none
  | [], [], _, _, _, _ => rfl
  | e :: es, d :: ds, i, j, h, hm => by
    obtain ⟨h1, h2, h3⟩ := h
    have hd : ¬ d = x := fun q => hm (by rw [q]; exact List.mem_cons_self)
    have hs : Instr.sameNow (.int .i64) (.int .i64 x) e.key = some false := by rw [h1]; simp [Instr.sameNow, Ne.symm hd]
    unfold Instr.findNow
    rw [hs]
    show Instr.findNow (.int .i64) (.int .i64 x) es (j + 1) = _
    exact find_no (j + 1) h3 fun q => hm (List.mem_cons_of_mem _ q)

/-- Block b is a map of the different numbers ds to their places. -/
def NumM (w : World) (b : Nat) (ds : List Int) : Prop := ∃ es clock, w.heap[b]? = some (.map es clock) ∧ KV es.toList ds 0
section
variable {P : Program} {w w' : World} {b : Nat} {ds : List Int}
theorem NumM.lt (h : NumM w b ds) : b < w.heap.size := by
  obtain ⟨es, clock, hb, _⟩ := h
  exact (Array.getElem?_eq_some_iff.1 hb).1
theorem NumM.same (h : NumM w b ds) (hs : w'.heap[b]? = w.heap[b]?) : NumM w' b ds := by
  obtain ⟨es, clock, hb, h2⟩ := h
  exact ⟨es, clock, hs.trans hb, h2⟩
theorem numM_made (w : World) : NumM (w.alloc (.map #[] 0)) w.heap.size [] := ⟨#[], 0, (MapKept.heap_alloc w _).1, trivial⟩
/-- number, known := m[x] -/
theorem NumM.lookup (h : NumM w b ds) {t k e : TypeId} (ht : P.underlying t = some (.map k e)) (hk : P.underlying k = some (.int .i64)) (hz : (zeroValue e).run P w = .ok (.int .i64 0) w) (x : Int) :
    (Instr.lookup t (.map (some b)) (.int .i64 x) true).run P w = .ok (.tuple #[.int .i64 (if x ∈ ds then (ix x ds : Int) else 0), .bool (decide (x ∈ ds))]) w := by
  obtain ⟨es, clock, hb, h2⟩ := h
  have hc : ∀ em, (Instr.checkKey em 10000 k (.int .i64 x)).run P w = .ok () w := fun em => MapKept.run_checkKey hk (show IsKey (.int .i64) (.int .i64 x) from rfl) em 9999
  by_cases hm : x ∈ ds
  · have hf := MapKept.run_findKey (P := P) (w := w) hk (find_yes 0 h2 hm)
    simp [Instr.lookup, run_underlying ht, MapKept.run_getObj_map hb, hc, hf, hm, Result.andThen]
  · have hf := MapKept.run_findKey (P := P) (w := w) hk (find_no 0 h2 hm)
    simp [Instr.lookup, run_underlying ht, MapKept.run_getObj_map hb, hc, hf, hm, hz, Result.andThen]
/-- len(m) -/
theorem NumM.len (h : NumM w b ds) {t k e : TypeId} (ht : P.underlying t = some (.map k e)) (ty : TypeId) : (Builtin.len_ #[t] ty #[.map (some b)]).run P w = .ok (.int .i64 (ds.length : Int)) w := by
  obtain ⟨es, clock, hb, h2⟩ := h
  have hl : es.size = ds.length := by rw [← kv_len h2]; simp
  simp [Builtin.len_, run_underlying ht, MapKept.run_getObj_map hb, goInt, Result.andThen, hl]
/-- m[x] = len(m), x new -/
theorem NumM.update (h : NumM w b ds) {t k e : TypeId} (ht : P.underlying t = some (.map k e)) (hk : P.underlying k = some (.int .i64)) {x : Int} (hx : x ∉ ds) :
    ∃ w', (Instr.mapUpdate t (.map (some b)) (.int .i64 x) (.int .i64 (ds.length : Int))).run P w = .ok () w' ∧ NumM w' b (ds ++ [x]) ∧ w.grownBy w' (some b) ∧ w'.heap.size = w.heap.size := by
  obtain ⟨es, clock, hb, h2⟩ := h
  have hc : ∀ em, (Instr.checkKey em 10000 k (.int .i64 x)).run P w = .ok () w := fun em => MapKept.run_checkKey hk (show IsKey (.int .i64) (.int .i64 x) from rfl) em 9999
  have hf := MapKept.run_findKey (P := P) (w := w) hk (find_no 0 h2 hx)
  have hgr : ∀ o, w.grownBy (setBlock w b o) (some b) := fun o => ⟨rfl, rfl, rfl, by simp [setBlock], fun i _ hi => heap_setBlock_other hb _ (fun e => hi (by rw [e]))⟩
  refine ⟨setBlock w b (.map (es.push ⟨.int .i64 x, .int .i64 (ds.length : Int), clock⟩) (clock + 1)), ?_, ⟨_, _, heap_setBlock_same hb _, ?_⟩, hgr _, by simp [setBlock]⟩
  · simp [Instr.mapUpdate, run_underlying ht, MapKept.run_getObj_map hb, hc, hf, MapKept.run_setObj_map _ hb, Result.andThen, setBlock]
  · rw [Array.toList_push]
    exact kv_push h2 rfl (by simp)
end
end Nu13
end Go.Proofs.Ytcbhjnjallnidab
