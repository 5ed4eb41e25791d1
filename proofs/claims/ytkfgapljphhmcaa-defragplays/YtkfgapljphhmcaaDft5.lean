/- Layer 7: what a method keeps; a table as a plain thing; entryOf in one. -/
import Derived.Test.YtkfgapljphhmcaaDft4
namespace Go.Proofs.Ytkfgapljphhmcaa
open Go.RowKit Go.Maps
set_option linter.unusedVariables false
set_option maxRecDepth 20000
/-- all but the blocks F is as it was; F' is F and what is new -/
structure Kept (F : Nat → Prop) (w : World) (F' : Nat → Prop) (w' : World) : Prop where
  os : w'.os = w.os
  tape : w'.tape = w.tape
  output : w'.output = w.output
  size : w.heap.size ≤ w'.heap.size
  block : ∀ k, k < w.heap.size → ¬ F k → w'.heap[k]? = w.heap[k]?
  fresh : ∀ b, F' b → F b ∨ w.heap.size ≤ b
theorem Kept.refl (F : Nat → Prop) (w : World) : Kept F w F w := ⟨rfl, rfl, rfl, Nat.le_refl _, fun _ _ _ => rfl, fun _ h => .inl h⟩
theorem Kept.trans {F F1 F2 : Nat → Prop} {w w1 w2 : World} (h : Kept F w F1 w1) (k : Kept F1 w1 F2 w2) : Kept F w F2 w2 := by
  refine ⟨k.os.trans h.os, k.tape.trans h.tape, k.output.trans h.output, Nat.le_trans h.size k.size, fun b hb hF => ?_, fun b hb => ?_⟩
  · rw [k.block b (Nat.lt_of_lt_of_le hb h.size) (fun h1 => (h.fresh b h1).elim hF (fun g => absurd hb (Nat.not_lt.2 g))), h.block b hb hF]
  · rcases k.fresh b hb with h1 | h1
    · exact h.fresh b h1
    · exact .inr (Nat.le_trans h.size h1)
theorem Kept.of_below (F : Nat → Prop) {w w' : World} (h : Below w.heap.size w w') : Kept F w F w' := ⟨h.os, h.tape, h.output, h.size, fun k hk _ => h.block k hk, fun _ h => .inl h⟩
theorem Kept.of_grown {F : Nat → Prop} {w w' : World} {b : Nat} (h : w.grownBy w' (some b)) (hb : F b) : Kept F w F w' := ⟨h.os, h.tape, h.output, h.size, fun k hk hF => h.block k hk (fun e => hF (by injection e with e; rw [e]; exact hb)), fun _ h => .inl h⟩
/-- as it was below b0, where nothing of F lies below b0 -/
theorem Kept.below {F F' : Nat → Prop} {w w' : World} (h : Kept F w F' w') {b0 : Nat} (hb : b0 ≤ w.heap.size) (hF : ∀ b, F b → b0 ≤ b) : Below b0 w w' ∧ ∀ b, F' b → b0 ≤ b :=
  ⟨⟨h.os, h.tape, h.output, h.size, fun k hk => h.block k (by omega) (fun g => by have := hF k g; omega)⟩, fun b hb' => (h.fresh b hb').elim (hF b) (fun g => Nat.le_trans hb g)⟩
theorem Kept.cell {F F' : Nat → Prop} {w w' : World} (h : Kept F w F' w') (b o : Nat) (hb : b < w.heap.size) (hF : ¬ F b) : w'.cell? ⟨b, o, none⟩ = w.cell? ⟨b, o, none⟩ := World.cell?_of_block (a := ⟨b, o, none⟩) (h.block b hb hF)
theorem Kept.not {F F' : Nat → Prop} {w w' : World} (h : Kept F w F' w') (b : Nat) (hb : b < w.heap.size) (hF : ¬ F b) : ¬ F' b := fun g => (h.fresh b g).elim hF (fun x => absurd hb (Nat.not_lt.2 x))
/-- a table: entries by their names, and how many -/
structure Tbl where
  S : Lit → Option Ent
  n : Nat
def Tbl.none : Tbl := ⟨fun _ => Option.none, 0⟩
def Tbl.del (T : Tbl) (kl : Lit) : Tbl := ⟨upd T.S kl Option.none, T.n - (if (T.S kl).isSome then 1 else 0)⟩
def Tbl.put (T : Tbl) (kl : Lit) (e : Ent) : Tbl := ⟨upd T.S kl (some e), T.n + (if (T.S kl).isSome then 0 else 1)⟩
theorem upd_upd {α : Type} (f : Lit → α) (k : Lit) (v u : α) : upd (upd f k v) k u = upd f k u := by
  funext x
  by_cases h : x = k
  · subst h; rw [upd_same, upd_same]
  · rw [upd_other _ _ _ h, upd_other _ _ _ h, upd_other _ _ _ h]
theorem upd_id {α : Type} (f : Lit → α) (k : Lit) (v : α) (h : f k = v) : upd f k v = f := by
  funext x
  by_cases h1 : x = k
  · subst h1; rw [upd_same, h]
  · rw [upd_other _ _ _ h1]
theorem Tbl.put_put (T : Tbl) (kl : Lit) (e e' : Ent) : (T.put kl e).put kl e' = T.put kl e' := by
  unfold Tbl.put
  simp only [upd_upd, upd_same]
  rfl
theorem Tbl.put_del (T : Tbl) (kl : Lit) (e : Ent) : (T.put kl e).del kl = T.del kl := by
  unfold Tbl.put Tbl.del
  simp only [upd_upd, upd_same]
  cases (T.S kl).isSome <;> simp
abbrev TabT (w : World) (F : Nat → Prop) (tb mb : Nat) (most ticks : Int) (blk : Lit → Option Nat) (T : Tbl) : Prop := Tab w F tb mb most ticks blk T.S T.n
theorem Tab.same {w : World} {F : Nat → Prop} {tb mb : Nat} {most ticks : Int} {blk : Lit → Option Nat} {S : Lit → Option Ent} {cnt : Nat} (h : Tab w F tb mb most ticks blk S cnt) (kl : Lit) : (S kl).isSome = (blk kl).isSome := by
  cases hb : blk kl with
  | none => rw [h.non kl hb]; rfl
  | some B => obtain ⟨e, a1, _⟩ := h.ent kl B hb; rw [a1]; rfl
theorem entryOf_any {w : World} {F : Nat → Prop} {tb mb : Nat} {most ticks : Int} {blk : Lit → Option Nat} {T : Tbl} (h : TabT w F tb mb most ticks blk T) (i : Ip) (hk : keyOf Try.prog 54 (.agg (nmV i)) = some (nmL i)) (hc : (T.S (nmL i)).isSome = false → (T.n : Int) < most) :
    Calls Try.prog 24 #[.pointer (some ⟨tb, 0, none⟩), .agg (nmV i)] w fun r w' => ∃ B F' blk', r = .returned (.pointer (some ⟨B, 0, none⟩)) ∧ Kept F w F' w' ∧ blk' (nmL i) = some B ∧
      TabT w' F' tb mb most ticks blk' (T.put (nmL i) ((T.S (nmL i)).getD Ent.zero)) := by
  cases hb : blk (nmL i) with
  | some B =>
    refine (entryOf_known h i hk B hb).mono ?_
    rintro r w' ⟨rfl, hB⟩
    obtain ⟨e, a1, _⟩ := h.ent _ B hb
    refine ⟨B, F, blk, rfl, Kept.of_below F hB, hb, ?_⟩
    have : T.put (nmL i) ((T.S (nmL i)).getD Ent.zero) = T := by
      unfold Tbl.put
      rw [a1]
      show Tbl.mk (upd T.S (nmL i) (some e)) (T.n + 0) = T
      rw [upd_id _ _ _ a1]
      rfl
    rw [this]
    exact h.below hB
  | none =>
    have hn := h.non _ hb
    refine (entryOf_new h i hk hb (hc (by rw [hn]; rfl))).mono ?_
    rintro r w' ⟨B, rfl, hB, hg, hT⟩
    refine ⟨B, fun b => F b ∨ b = B, upd blk (nmL i) (some B), rfl, ⟨hg.os, hg.tape, hg.output, hg.size, fun k hk hF => hg.block k hk (fun e => hF (by injection e with e; rw [e]; exact h.fm)), fun b (hb : F b ∨ b = B) => hb.imp id (fun e => by rw [e]; exact hB)⟩, upd_same _ _ _, ?_⟩
    unfold Tbl.put
    rw [hn]
    exact hT
end Go.Proofs.Ytkfgapljphhmcaa
