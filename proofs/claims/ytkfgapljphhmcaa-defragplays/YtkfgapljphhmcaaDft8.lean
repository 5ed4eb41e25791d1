/- Layer 7: Add in one; entries grow old; how many; what a map's range gives. -/
import Derived.Test.YtkfgapljphhmcaaDft7
namespace Go.Proofs.Ytkfgapljphhmcaa
open Go.RowKit Go.Maps
set_option linter.unusedVariables false
set_option maxRecDepth 20000
/-- what Add answers -/
structure Ans where
  T : Tbl
  text : ByteArray
  done : Bool
  err : Int
def Tbl.add (T : Tbl) (most : Int) (i : Ip) (s : ByteArray) : Ans :=
  if partB i = false then ⟨T, s, true, 0⟩
  else if faultC most (T.S (nmL i)).isSome T.n i s.size = 5 then ⟨T.del (nmL i), ⟨#[]⟩, false, 5⟩
  else if faultC most (T.S (nmL i)).isSome T.n i s.size = 0 then
    if (T.with (nmL i) i s).whole then ⟨T.del (nmL i), (T.with (nmL i) i s).text, true, 0⟩ else ⟨T.put (nmL i) (T.with (nmL i) i s), ⟨#[]⟩, false, 0⟩
  else ⟨T, ⟨#[]⟩, false, faultC most (T.S (nmL i)).isSome T.n i s.size⟩
theorem fault_some (most : Int) (k : Bool) (cnt : Nat) (i : Ip) (n : Nat) : faultC most k cnt i n = 3 ∨ faultC most k cnt i n = 5 ∨ faultC most k cnt i n = 10 ∨ faultC most k cnt i n = 0 := by
  unfold faultC
  split
  · exact .inl rfl
  · split
    · exact .inr (.inl rfl)
    · split
      · exact .inr (.inr (.inl rfl))
      · exact .inr (.inr (.inr rfl))
theorem TabK.same {w w' : World} {F : Nat → Prop} {tb mb : Nat} {most ticks : Int} {blk : Lit → Option Nat} {T : Tbl} (h : TabT w F tb mb most ticks blk T) (hb : Below w.heap.size w w') : TabK F w tb mb most ticks T w' := ⟨F, blk, Kept.of_below F hb, h.below hb⟩
theorem add_any {w : World} {F : Nat → Prop} {tb mb : Nat} {most ticks : Int} {blk : Lit → Option Nat} {T : Tbl} (h : TabT w F tb mb most ticks blk T) (i : Ip) (hk : keyOf Try.prog 54 (.agg (nmV i)) = some (nmL i)) (s : ByteArray) (hs : s.size ≤ 1000000000) (hio : i.off ≤ 9223372036854775807) :
    Calls Try.prog 15 #[.pointer (some ⟨tb, 0, none⟩), .agg (ipV i), .string s] w fun r w' => r = .returned (.tuple #[.string (T.add most i s).text, .bool (T.add most i s).done, .int .i64 (T.add most i s).err]) ∧ TabK F w tb mb most ticks (T.add most i s).T w' := by
  unfold Tbl.add
  by_cases hp : partB i = false
  · rw [if_pos hp]
    refine (add_none tb i s hp).mono ?_
    rintro r w' ⟨rfl, hb⟩
    exact ⟨rfl, TabK.same h hb⟩
  · rw [if_neg hp]
    have hp' : partB i = true := by cases hh : partB i <;> simp_all
    by_cases h5 : faultC most (T.S (nmL i)).isSome T.n i s.size = 5
    · rw [if_pos h5]
      exact add_big h i hk s hs hio hp' h5
    · rw [if_neg h5]
      by_cases h0 : faultC most (T.S (nmL i)).isSome T.n i s.size = 0
      · rw [if_pos h0]
        have hq := add_take h i hk s hs hio hp' h0
        by_cases hw : (T.with (nmL i) i s).whole = true
        · rw [if_pos hw]
          rw [if_pos hw, if_pos hw] at hq
          exact hq
        · rw [if_neg hw]
          rw [if_neg hw, if_neg hw] at hq
          exact hq
      · rw [if_neg h0]
        refine (add_fault h i hk s hs hio hp' _ rfl ?_).mono ?_
        · rcases fault_some most (T.S (nmL i)).isSome T.n i s.size with g | g | g | g
          · exact .inl g
          · exact absurd g h5
          · exact .inr g
          · exact absurd g h0
        · rintro r w' ⟨rfl, hb⟩
          exact ⟨rfl, TabK.same h hb⟩
/-- so much older; gone if that is too old -/
def Ent.aged (n ticks : Int) (e : Ent) : Option Ent := if ticks ≤ e.age + n then none else some { e with age := e.age + n }
/-- some have grown older, the ones that 'left' names are still to come -/
def agedBut (n ticks : Int) (S : Lit → Option Ent) (left : Lit → Bool) : Lit → Option Ent := fun kl => if left kl then S kl else (S kl).bind (Ent.aged n ticks)
/-- an entry goes, whatever became of its block -/
theorem Tab.del2 {w w' : World} {F : Nat → Prop} {tb mb : Nat} {most ticks : Int} {blk : Lit → Option Nat} {S : Lit → Option Ent} {cnt n : Nat} {D : DataW Nat} (h : Tab w F tb mb most ticks blk S cnt) (kl : Lit) {B : Nat} (hB : blk kl = some B) (ho : w.ownsMap Try.prog 54 ptrR mb cnt D) (hz : Maps.size D = cnt) (hr : Reads D blk)
    (ho' : w'.ownsMap Try.prog 54 ptrR mb n (D.del kl)) (hs : w.heap.size ≤ w'.heap.size) (hg : ∀ b, F b → b ≠ mb → b ≠ B → w'.heap[b]? = w.heap[b]?) :
    ∃ c', cnt = c' + 1 ∧ Tab w' F tb mb most ticks (upd blk kl none) (upd S kl none) c' := by
  have hsz := Maps.size_del (k := kl) (ho.tidy nmLaw)
  rw [hz, hr.1 kl, hB] at hsz
  have hm : Maps.size (D.del kl) + 1 = cnt := by simpa using hsz
  obtain ⟨e0, _, _, _, _, b5, b6, b7⟩ := h.ent kl B hB
  have c : ∀ o, w'.cell? ⟨tb, o, none⟩ = w.cell? ⟨tb, o, none⟩ := fun o => World.cell?_of_block (a := ⟨tb, o, none⟩) (hg tb h.ft h.tm (Ne.symm b7))
  refine ⟨Maps.size (D.del kl), hm.symm, by rw [c, h.c0], by rw [c, h.c1], by rw [c, h.c2], ⟨_, owns_tight ho' rfl, rfl, hr.del kl⟩, fun k2 B2 hB2 => ?_, fun k2 hk2 => ?_, fun k1 k2 B h1 h2 => ?_, h.ft, h.fm, h.tm, fun b hF => Nat.lt_of_lt_of_le (h.lt b hF) hs, ⟨by have := h.few.1; omega, h.few.2⟩, fun k2 hk2 => ?_⟩
  · by_cases hk : k2 = kl
    · subst hk; rw [upd_same] at hB2; cases hB2
    · rw [upd_other _ _ _ hk] at hB2
      obtain ⟨e2, a1, a2, a3, a4, a5, a6, a7⟩ := h.ent k2 B2 hB2
      exact ⟨e2, by rw [upd_other _ _ _ hk]; exact a1, a2.block (hg B2 a5 a6 (fun x => hk (h.inj k2 kl B (x ▸ hB2) hB))), a3, a4, a5, a6, a7⟩
  · by_cases hk : k2 = kl
    · subst hk; rw [upd_same]
    · rw [upd_other _ _ _ hk] at hk2 ⊢; exact h.non k2 hk2
  · by_cases e1 : k1 = kl
    · subst e1; rw [upd_same] at h1; cases h1
    · by_cases e2 : k2 = kl
      · subst e2; rw [upd_same] at h2; cases h2
      · rw [upd_other _ _ _ e1] at h1
        rw [upd_other _ _ _ e2] at h2
        exact h.inj k1 k2 B h1 h2
  · by_cases hk : k2 = kl
    · subst hk; rw [upd_same] at hk2; exact absurd rfl hk2
    · rw [upd_other _ _ _ hk] at hk2; exact h.key k2 hk2
/-- as many names as there are entries -/
def Card (S : Lit → Option Ent) (n : Nat) : Prop := ∃ ks : List Lit, ks.Nodup ∧ (∀ kl, kl ∈ ks ↔ (S kl).isSome = true) ∧ ks.length = n
theorem Card.one {S : Lit → Option Ent} {n m : Nat} (h : Card S n) (k : Card S m) : n = m := by
  obtain ⟨a, a1, a2, rfl⟩ := h
  obtain ⟨b, b1, b2, rfl⟩ := k
  exact List.Perm.length_eq ((List.perm_ext_iff_of_nodup a1 b1).2 (fun x => by rw [a2, b2]))
theorem sameKey_key {a b : Lit} (h : WideAt.IsKeyLit b) : a.sameKey b = true ↔ a = b := ⟨WideAt.sameKey_eq, fun e => by subst e; exact WideAt.sameKey_self h⟩
theorem Tab.card {w : World} {F : Nat → Prop} {tb mb : Nat} {most ticks : Int} {blk : Lit → Option Nat} {S : Lit → Option Ent} {cnt : Nat} (h : Tab w F tb mb most ticks blk S cnt) : Card S cnt := by
  obtain ⟨D, ho, hz, hr⟩ := h.map
  obtain ⟨es, rfl, hp, hk⟩ := ho.entries nmLaw
  refine ⟨es.map Prod.fst, ?_, fun kl => ?_, ?_⟩
  · exact List.pairwise_map.2 hp
  · rw [h.same, ← hr.1 kl, Maps.has_eq, List.any_eq_true]
    constructor
    · intro hm
      obtain ⟨p, hp1, rfl⟩ := List.mem_map.1 hm
      exact ⟨p, hp1, WideAt.sameKey_self (hk p hp1)⟩
    · rintro ⟨p, hp1, hp2⟩
      exact List.mem_map.2 ⟨p, hp1, WideAt.sameKey_eq hp2⟩
  · rw [List.length_map]
    exact hz
end Go.Proofs.Ytkfgapljphhmcaa
