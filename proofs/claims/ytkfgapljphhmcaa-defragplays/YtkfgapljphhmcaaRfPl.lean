/- Layer 7's own answer (rampartref07) in memory: entries in a row, each with a row of parts. -/
import Derived.Test.YtkfgapljphhmcaaDfw
import Derived.Test.YtkfgapljphhmcaaSpine
namespace Go.Proofs.Ytkfgapljphhmcaa
open Go.RowKit Go.Maps
set_option linter.unusedVariables false
set_option maxRecDepth 20000
/-- an entry of the reference -/
structure RE where
  src : UInt32
  dst : UInt32
  proto : Int
  id : Int
  ps : List (Nat × UInt8)
  all : Int
  at_ : Int
def entV (e : RE) (v : Value) : List Value := [.int .u32 (e.src.toNat : Int), .int .u32 (e.dst.toNat : Int), .int .i64 e.proto, .int .i64 e.id, v, .int .i64 e.all, .int .i64 e.at_]
def parV (p : Nat × UInt8) : List Value := [.int .i64 (p.1 : Int), bv p.2]
theorem flat_len {α : Type} (f : α → List Value) (c : Nat) (hf : ∀ x, (f x).length = c) (L : List α) : (L.flatMap f).length = L.length * c := by
  induction L with
  | nil => simp
  | cons y L ih => rw [List.flatMap_cons, List.length_append, hf, ih, List.length_cons, Nat.succ_mul]; omega
theorem flat_at {α : Type} (f : α → List Value) (c : Nat) (hf : ∀ x, (f x).length = c) (L : List α) (k : Nat) (x : α) (hx : L[k]? = some x) (o : Nat) (ho : o < c) : (L.flatMap f)[k * c + o]? = (f x)[o]? := by
  rw [Nat.mul_comm k c]
  induction L generalizing k with
  | nil => cases hx
  | cons y L ih =>
    rw [List.flatMap_cons]
    cases k with
    | zero =>
      simp at hx
      subst hx
      rw [Nat.mul_zero, Nat.zero_add, List.getElem?_append_left (by rw [hf]; exact ho)]
    | succ k =>
      rw [List.getElem?_append_right (by rw [hf, Nat.mul_succ]; omega), hf, show c * (k + 1) + o - c = c * k + o from by rw [Nat.mul_succ]; omega]
      exact ih k (by simpa using hx)
abbrev rowE (L : List (RE × Value)) : List Value := L.flatMap fun x => entV x.1 x.2
abbrev rowP (ps : List (Nat × UInt8)) : List Value := ps.flatMap parV
/-- how a row's slice looks -/
theorem own_slice {w : World} {b e c : Nat} {v : Value} {n : Nat} {xs : List Value} (h : w.ownsRow b e c v n xs) : ∃ a cap, v = .slice a n cap := by
  rcases h.2 with ⟨h1, h2⟩ | ⟨g, cap, cur, h1, _⟩
  · exact ⟨none, 0, by rw [h1, h2]⟩
  · exact ⟨_, _, h1⟩
theorem own_some {w : World} {b e c : Nat} {v : Value} {n : Nat} {xs : List Value} (h : w.ownsRow b e c v n xs) (hn : 0 < n) : ∃ g cap, v = .slice (some ⟨g, 0, none⟩) n cap ∧ g < w.heap.size ∧ (∀ o, w.frozen? ⟨g, o, none⟩ = false) ∧ ∀ j u, xs[j]? = some u → w.cell? ⟨g, j, none⟩ = some u := by
  rcases h.2 with ⟨_, h2⟩ | ⟨g, cap, cur, h1, _, h3, _⟩
  · omega
  · refine ⟨g, cap, h1, (Array.getElem?_eq_some_iff.1 h3).1, fun o => by simp [World.frozen?, h3], fun j u hj => ?_⟩
    have := h.cells (show v.ownBlock = some g by rw [h1]; rfl) j u hj
    rcases Nat.eq_zero_or_pos j with e | e
    · subst e; simpa [Addr.add] using this
    · simpa [Addr.add, Nat.ne_of_gt e] using this
/-- the reference's table in memory -/
structure Ref (w : World) (G : Nat → Prop) (rt : Nat) (vL : Value) (most ticks now : Int) (L : List (RE × Value)) : Prop where
  c0 : w.cell? ⟨rt, 0, none⟩ = some (.int .i64 most)
  c1 : w.cell? ⟨rt, 1, none⟩ = some (.int .i64 ticks)
  c2 : w.cell? ⟨rt, 2, none⟩ = some (.int .i64 now)
  c3 : w.cell? ⟨rt, 3, none⟩ = some vL
  fz : ∀ o, w.frozen? ⟨rt, o, none⟩ = false
  row : w.ownsRow 0 62 7 vL L.length (rowE L)
  parts : ∀ x ∈ L, w.ownsRow 0 73 2 x.2 x.1.ps.length (rowP x.1.ps)
  apart : L.Pairwise (fun x y => x.2.ownBlock = none ∨ x.2.ownBlock ≠ y.2.ownBlock)
  rowAp : ∀ x ∈ L, x.2.ownBlock = none ∨ x.2.ownBlock ≠ vL.ownBlock
  rtL : vL.ownBlock ≠ some rt
  rtP : ∀ x ∈ L, x.2.ownBlock ≠ some rt
  gr : G rt
  gL : ∀ b, vL.ownBlock = some b → G b
  gP : ∀ x ∈ L, ∀ b, x.2.ownBlock = some b → G b
  lt : ∀ b, G b → b < w.heap.size
  few : L.length ≤ 32 ∧ (∀ x ∈ L, x.1.ps.length ≤ 2000 ∧ ∀ p ∈ x.1.ps, p.1 < 2000) ∧ (1 ≤ most ∧ most ≤ 32) ∧ (1 ≤ ticks ∧ ticks ≤ 100000)
theorem ownsRow_block {w w' : World} {b e c : Nat} {v : Value} {n : Nat} {xs : List Value} (h : w.ownsRow b e c v n xs) (hb : ∀ g, v.ownBlock = some g → w'.heap[g]? = w.heap[g]?) : w'.ownsRow b e c v n xs := by
  refine ⟨h.1, ?_⟩
  rcases h.2 with h2 | ⟨g, cap, cur, h1, h2, h3, h4⟩
  · exact .inl h2
  · exact .inr ⟨g, cap, cur, h1, h2, (hb g (by rw [h1]; rfl)).trans h3, h4⟩
theorem Ref.block {w w' : World} {G : Nat → Prop} {rt : Nat} {vL : Value} {most ticks now : Int} {L : List (RE × Value)} (h : Ref w G rt vL most ticks now L) (hs : w.heap.size ≤ w'.heap.size) (hb : ∀ b, G b → w'.heap[b]? = w.heap[b]?) : Ref w' G rt vL most ticks now L := by
  have c : ∀ o, w'.cell? ⟨rt, o, none⟩ = w.cell? ⟨rt, o, none⟩ := fun o => World.cell?_of_block (a := ⟨rt, o, none⟩) (hb rt h.gr)
  have f : ∀ o, w'.frozen? ⟨rt, o, none⟩ = w.frozen? ⟨rt, o, none⟩ := fun o => World.frozen?_of_block (a := ⟨rt, o, none⟩) (hb rt h.gr)
  exact ⟨by rw [c, h.c0], by rw [c, h.c1], by rw [c, h.c2], by rw [c, h.c3], fun o => by rw [f, h.fz], ownsRow_block h.row (fun g hg => hb g (h.gL g hg)), fun x hx => ownsRow_block (h.parts x hx) (fun g hg => hb g (h.gP x hx g hg)), h.apart, h.rowAp, h.rtL, h.rtP, h.gr, h.gL, h.gP, fun b hG => Nat.lt_of_lt_of_le (h.lt b hG) hs, h.few⟩
theorem Ref.below {w w' : World} {G : Nat → Prop} {rt : Nat} {vL : Value} {most ticks now : Int} {L : List (RE × Value)} (h : Ref w G rt vL most ticks now L) (hb : Below w.heap.size w w') : Ref w' G rt vL most ticks now L :=
  h.block hb.size (fun b hG => hb.block b (h.lt b hG))
/-- an entry's cells, at offset q of block g -/
structure EntC (w : World) (g q : Nat) (e : RE) (v : Value) : Prop where
  e0 : w.cell? ⟨g, q, none⟩ = some (.int .u32 (e.src.toNat : Int))
  e1 : w.cell? ⟨g, q + 1, none⟩ = some (.int .u32 (e.dst.toNat : Int))
  e2 : w.cell? ⟨g, q + 2, none⟩ = some (.int .i64 e.proto)
  e3 : w.cell? ⟨g, q + 3, none⟩ = some (.int .i64 e.id)
  e4 : w.cell? ⟨g, q + 4, none⟩ = some v
  e5 : w.cell? ⟨g, q + 5, none⟩ = some (.int .i64 e.all)
  e6 : w.cell? ⟨g, q + 6, none⟩ = some (.int .i64 e.at_)
/-- what the walk reads of the entries -/
theorem Ref.ent {w : World} {G : Nat → Prop} {rt : Nat} {vL : Value} {most ticks now : Int} {L : List (RE × Value)} (h : Ref w G rt vL most ticks now L) (hn : 0 < L.length) : ∃ g cap, vL = .slice (some ⟨g, 0, none⟩) L.length cap ∧ g < w.heap.size ∧ (∀ o, w.frozen? ⟨g, o, none⟩ = false) ∧ ∀ k x, L[k]? = some x → EntC w g (k * 7) x.1 x.2 := by
  obtain ⟨g, cap, h1, h2, h3, h4⟩ := own_some h.row hn
  refine ⟨g, cap, h1, h2, h3, fun k x hx => ?_⟩
  have hf := fun o ho => flat_at (fun x : RE × Value => entV x.1 x.2) 7 (fun _ => rfl) L k x hx o ho
  exact ⟨h4 _ _ (hf 0 (by omega)), h4 _ _ (hf 1 (by omega)), h4 _ _ (hf 2 (by omega)), h4 _ _ (hf 3 (by omega)), h4 _ _ (hf 4 (by omega)), h4 _ _ (hf 5 (by omega)), h4 _ _ (hf 6 (by omega))⟩
end Go.Proofs.Ytkfgapljphhmcaa
