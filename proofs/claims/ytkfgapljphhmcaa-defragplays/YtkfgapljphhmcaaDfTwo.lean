/- Layer 7: the table of the code and the reference's, side by side in one world. -/
import Derived.Test.YtkfgapljphhmcaaDfRel2
import Derived.Test.YtkfgapljphhmcaaDfw
namespace Go.Proofs.Ytkfgapljphhmcaa
open Go.RowKit Go.Maps
set_option linter.unusedVariables false
set_option maxRecDepth 20000
/-- both tables; blocks X are neither's -/
def Pair (w0 w : World) (X : Nat → Prop) (tb rt : Nat) (m tk now : Int) (T : Tbl) (L : List (RE × Value)) : Prop :=
  ∃ F mb blk G vL, TabT w F tb mb m tk blk T ∧ Ref w G rt vL m tk now L ∧ (∀ b, F b → ¬ G b) ∧ (∀ b, F b ∨ G b → w0.heap.size ≤ b) ∧ Below w0.heap.size w0 w ∧ ∀ b, X b → b < w.heap.size ∧ ¬ F b ∧ ¬ G b
/-- blocks X are as they were -/
def Same (X : Nat → Prop) (w w' : World) : Prop := ∀ b, X b → w'.heap[b]? = w.heap[b]?
theorem Same.cell {X : Nat → Prop} {w w' : World} (h : Same X w w') (b o : Nat) (hb : X b) : w'.cell? ⟨b, o, none⟩ = w.cell? ⟨b, o, none⟩ := World.cell?_of_block (a := ⟨b, o, none⟩) (h b hb)
theorem Pair.bel {w0 w : World} {X : Nat → Prop} {tb rt : Nat} {m tk now : Int} {T : Tbl} {L : List (RE × Value)} (h : Pair w0 w X tb rt m tk now T L) : Below w0.heap.size w0 w := by obtain ⟨_, _, _, _, _, _, _, _, _, h, _⟩ := h; exact h
theorem Pair.below {w0 w w' : World} {X : Nat → Prop} {tb rt : Nat} {m tk now : Int} {T : Tbl} {L : List (RE × Value)} (h : Pair w0 w X tb rt m tk now T L) (hb : Below w.heap.size w w') : Pair w0 w' X tb rt m tk now T L := by
  obtain ⟨F, mb, blk, G, vL, h1, h2, h3, h4, h5, h6⟩ := h
  exact ⟨F, mb, blk, G, vL, h1.below hb, h2.below hb, h3, h4, h5.trans (hb.mono h5.size), fun b hX => ⟨Nat.lt_of_lt_of_le (h6 b hX).1 hb.size, (h6 b hX).2⟩⟩
theorem Pair.same {w0 w w' : World} {X : Nat → Prop} {tb rt : Nat} {m tk now : Int} {T : Tbl} {L : List (RE × Value)} (h : Pair w0 w X tb rt m tk now T L) (hb : Below w.heap.size w w') : Same X w w' := by
  obtain ⟨F, mb, blk, G, vL, h1, h2, h3, h4, h5, h6⟩ := h
  exact fun b hX => hb.block b (h6 b hX).1
/-- one more block that is neither's -/
theorem Pair.box {w0 w w' : World} {X : Nat → Prop} {tb rt : Nat} {m tk now : Int} {T : Tbl} {L : List (RE × Value)} (h : Pair w0 w X tb rt m tk now T L) (hb : Below w.heap.size w w') (b0 : Nat) (h0 : w.heap.size ≤ b0) (h1 : b0 < w'.heap.size) : Pair w0 w' (fun b => X b ∨ b = b0) tb rt m tk now T L := by
  obtain ⟨F, mb, blk, G, vL, g1, g2, g3, g4, g5, g6⟩ := h.below hb
  obtain ⟨F', mb', blk', G', vL', k1, k2, k3, k4, k5, k6⟩ := h
  exact ⟨F', mb', blk', G', vL', k1.below hb, k2.below hb, k3, k4, g5, fun b hX => by
    rcases hX with hX | rfl
    · exact ⟨(g6 b hX).1, (k6 b hX).2⟩
    · exact ⟨h1, fun hF => by have := k1.lt b hF; omega, fun hG => by have := k2.lt b hG; omega⟩⟩
theorem Pair.less {w0 w : World} {X X' : Nat → Prop} {tb rt : Nat} {m tk now : Int} {T : Tbl} {L : List (RE × Value)} (h : Pair w0 w X tb rt m tk now T L) (hX : ∀ b, X' b → X b) : Pair w0 w X' tb rt m tk now T L := by
  obtain ⟨F, mb, blk, G, vL, h1, h2, h3, h4, h5, h6⟩ := h
  exact ⟨F, mb, blk, G, vL, h1, h2, h3, h4, h5, fun b hb => h6 b (hX b hb)⟩
/-- the code's table turned -/
theorem pair_left {w0 w w' : World} {X F : Nat → Prop} {mb tb rt : Nat} {m tk now : Int} {T' : Tbl} {L : List (RE × Value)} {G : Nat → Prop} {vL : Value} (h1 : ∀ b, F b → b < w.heap.size) (h2 : Ref w G rt vL m tk now L) (h3 : ∀ b, F b → ¬ G b) (h4 : ∀ b, F b ∨ G b → w0.heap.size ≤ b) (h5 : Below w0.heap.size w0 w) (h6 : ∀ b, X b → b < w.heap.size ∧ ¬ F b ∧ ¬ G b)
    (k : TabK F w tb mb m tk T' w') : Pair w0 w' X tb rt m tk now T' L ∧ Same X w w' := by
  obtain ⟨F', blk', k, t⟩ := k
  refine ⟨⟨F', mb, blk', G, vL, t, h2.block k.size (fun b hG => k.block b (h2.lt b hG) (fun hF => h3 b hF hG)), fun b hF hG => ?_, fun b hb => ?_, ?_, fun b hX => ⟨Nat.lt_of_lt_of_le (h6 b hX).1 k.size, k.not b (h6 b hX).1 (h6 b hX).2.1, (h6 b hX).2.2⟩⟩, fun b hX => k.block b (h6 b hX).1 (h6 b hX).2.1⟩
  · exact k.not b (h2.lt b hG) (fun hF0 => h3 b hF0 hG) hF
  · rcases hb with hb | hb
    · rcases k.fresh b hb with e | e
      · exact h4 b (.inl e)
      · exact Nat.le_trans h5.size e
    · exact h4 b (.inr hb)
  · exact h5.trans (k.below h5.size (fun b hF => h4 b (.inl hF))).1
/-- the reference's table turned -/
theorem pair_right {w0 w w' : World} {X F : Nat → Prop} {mb tb rt : Nat} {blk : Lit → Option Nat} {m tk now' : Int} {T : Tbl} {L' : List (RE × Value)} {G : Nat → Prop} (h1 : TabT w F tb mb m tk blk T) (hG : ∀ b, G b → b < w.heap.size) (h3 : ∀ b, F b → ¬ G b) (h4 : ∀ b, F b ∨ G b → w0.heap.size ≤ b) (h5 : Below w0.heap.size w0 w) (h6 : ∀ b, X b → b < w.heap.size ∧ ¬ F b ∧ ¬ G b)
    (k : RefK G w rt m tk now' L' w') : Pair w0 w' X tb rt m tk now' T L' ∧ Same X w w' := by
  obtain ⟨G', vL', k, t⟩ := k
  refine ⟨⟨F, mb, blk, G', vL', h1.block k.size (fun b hF => k.block b (h1.lt b hF) (h3 b hF)), t, fun b hF hG' => k.not b (h1.lt b hF) (h3 b hF) hG', fun b hb => ?_, ?_, fun b hX => ⟨Nat.lt_of_lt_of_le (h6 b hX).1 k.size, (h6 b hX).2.1, k.not b (h6 b hX).1 (h6 b hX).2.2⟩⟩, fun b hX => k.block b (h6 b hX).1 (h6 b hX).2.2⟩
  · rcases hb with hb | hb
    · exact h4 b (.inl hb)
    · rcases k.fresh b hb with e | e
      · exact h4 b (.inr e)
      · exact Nat.le_trans h5.size e
  · exact h5.trans (k.below h5.size (fun b hF => h4 b (.inr hF))).1
theorem pair_add {w0 w : World} {X : Nat → Prop} {tb rt : Nat} {m tk now : Int} {T : Tbl} {L : List (RE × Value)} (h : Pair w0 w X tb rt m tk now T L) (i : Ip) (hk : i.ok) (s : ByteArray) (hs : s.size ≤ 1000000000) (hio : i.off ≤ 9223372036854775807) (a : Ans) (ha : T.add m i s = a) :
    Calls Try.prog 15 #[.pointer (some ⟨tb, 0, none⟩), .agg (ipV i), .string s] w fun r w' => r = .returned (.tuple #[.string a.text, .bool a.done, .int .i64 a.err]) ∧ Pair w0 w' X tb rt m tk now a.T L ∧ Same X w w' := by
  obtain ⟨F, mb, blk, G, vL, h1, h2, h3, h4, h5, h6⟩ := h
  have := add_any h1 i (nm_key i hk.1 hk.2) s hs hio
  rw [ha] at this
  refine this.mono ?_
  rintro r w' ⟨rfl, k⟩
  exact ⟨rfl, pair_left h1.lt h2 h3 h4 h5 h6 k⟩
theorem pair_addR {w0 w : World} {X : Nat → Prop} {tb rt : Nat} {m tk now : Int} {T : Tbl} {L : List (RE × Value)} (h : Pair w0 w X tb rt m tk now T L) (hg : ∀ x ∈ L, GoodE x.1) (i : Ip) (s : ByteArray) (hs : s.size ≤ 1000000000) (hio : -9223372036854775808 ≤ i.off ∧ i.off ≤ 9223372036854775807) (A : AnsR) (hA : addR m now (L.map Prod.fst) i s = A) :
    Calls Try.prog 16 #[.pointer (some ⟨rt, 0, none⟩), .agg (ipV i), .string s] w fun r w' => r = .returned (.tuple #[.string A.text, .bool A.done, .int .i64 A.err]) ∧ ∃ L', L'.map Prod.fst = A.R ∧ Pair w0 w' X tb rt m tk now T L' ∧ Same X w w' := by
  by_cases hp : partB i = false
  · have hA' := hA
    unfold addR at hA'
    rw [if_pos hp] at hA'
    refine (addR_none rt i s hp).mono ?_
    rintro r w' ⟨rfl, hb⟩
    subst hA'
    exact ⟨rfl, L, rfl, h.below hb, h.same hb⟩
  · obtain ⟨F, mb, blk, G, vL, h1, h2, h3, h4, h5, h6⟩ := h
    refine (addR_part h2 hg i s hs hio (by simpa using hp) A hA).mono ?_
    rintro r w' ⟨rfl, L', hL, k⟩
    exact ⟨rfl, L', hL, pair_right h1 h2.lt h3 h4 h5 h6 k⟩
theorem pair_tick {w0 w : World} {X : Nat → Prop} {tb rt : Nat} {m tk now : Int} {T : Tbl} {L : List (RE × Value)} (h : Pair w0 w X tb rt m tk now T L) (hr : RelT T (L.map Prod.fst) now) (n0 n : Int) (hn : n = max 0 (min n0 100000)) :
    Calls Try.prog 12 #[.pointer (some ⟨tb, 0, none⟩), .int .i64 n0] w fun r w' => ∃ T' : Tbl, r = .returned (.int .i64 ((L.length : Int) - ((L.filter (aliveR (now + n) tk)).length : Int))) ∧ RelT T' ((L.filter (aliveR (now + n) tk)).map Prod.fst) (now + n) ∧ Pair w0 w' X tb rt m tk now T' L ∧ Same X w w' := by
  obtain ⟨F, mb, blk, G, vL, h1, h2, h3, h4, h5, h6⟩ := h
  refine (tick_any h1 n0).mono ?_
  rintro r w' ⟨T', a1, a2, rfl, k⟩
  rw [← hn] at a1
  have hc : Card T'.S T'.n := by obtain ⟨F', blk', _, t⟩ := k; exact t.card
  have hrel := hr.tick n tk a1 hc
  have hmap : (L.map Prod.fst).filter (fun r => decide (now + n - r.at_ < tk)) = (L.filter (aliveR (now + n) tk)).map Prod.fst := by
    rw [List.filter_map]
    rfl
  rw [hmap] at hrel
  refine ⟨T', ?_, hrel, pair_left h1.lt h2 h3 h4 h5 h6 k⟩
  have e1 := hr.n
  have e2 := hrel.n
  rw [List.length_map] at e1 e2
  have e3 := List.length_filter_le (aliveR (now + n) tk) L
  congr 2
  omega
theorem pair_tickR {w0 w : World} {X : Nat → Prop} {tb rt : Nat} {m tk now : Int} {T : Tbl} {L : List (RE × Value)} (h : Pair w0 w X tb rt m tk now T L) (hnow : 0 ≤ now ∧ now ≤ 1000000000000) (hat : ∀ x ∈ L, 0 ≤ x.1.at_ ∧ x.1.at_ ≤ 1000000000000) (n0 n : Int) (hn : n = max 0 (min n0 100000)) :
    Calls Try.prog 13 #[.pointer (some ⟨rt, 0, none⟩), .int .i64 n0] w fun r w' => r = .returned (.int .i64 ((L.length : Int) - ((L.filter (aliveR (now + n) tk)).length : Int))) ∧ Pair w0 w' X tb rt m tk (now + n) T (L.filter (aliveR (now + n) tk)) ∧ Same X w w' := by
  obtain ⟨F, mb, blk, G, vL, h1, h2, h3, h4, h5, h6⟩ := h
  refine (tickR_any h2 n0 hnow hat (now + n) (by rw [hn])).mono ?_
  rintro r w' ⟨rfl, k⟩
  exact ⟨rfl, pair_right h1 h2.lt h3 h4 h5 h6 k⟩
theorem pair_flush {w0 w : World} {X : Nat → Prop} {tb rt : Nat} {m tk now : Int} {T : Tbl} {L : List (RE × Value)} (h : Pair w0 w X tb rt m tk now T L) :
    Calls Try.prog 14 #[.pointer (some ⟨tb, 0, none⟩)] w fun r w' => r = .returned (.tuple #[]) ∧ Pair w0 w' X tb rt m tk now Tbl.none L ∧ Same X w w' := by
  obtain ⟨F, mb, blk, G, vL, h1, h2, h3, h4, h5, h6⟩ := h
  refine (flush_any h1).mono ?_
  rintro r w' ⟨rfl, k⟩
  exact ⟨rfl, pair_left h1.lt h2 h3 h4 h5 h6 k⟩
theorem Ref.nil {w : World} {G : Nat → Prop} {rt : Nat} {vL : Value} {most ticks now : Int} {L : List (RE × Value)} (h : Ref w G rt vL most ticks now L) : RefK G w rt most ticks now [] (w.setCell ⟨rt, 3, none⟩ (.slice none 0 0)) :=
  h.reL (Below.refl _ _) (List.nil_sublist _) (World.ownsRow_nil _ _ _ _)
theorem pair_nil {w0 w : World} {X : Nat → Prop} {tb rt : Nat} {m tk now : Int} {T : Tbl} {L : List (RE × Value)} (h : Pair w0 w X tb rt m tk now T L) : Pair w0 (w.setCell ⟨rt, 3, none⟩ (.slice none 0 0)) X tb rt m tk now T [] ∧ Same X w (w.setCell ⟨rt, 3, none⟩ (.slice none 0 0)) := by
  obtain ⟨F, mb, blk, G, vL, h1, h2, h3, h4, h5, h6⟩ := h
  exact pair_right h1 h2.lt h3 h4 h5 h6 h2.nil
theorem pair_len {w0 w : World} {X : Nat → Prop} {tb rt : Nat} {m tk now : Int} {T : Tbl} {L : List (RE × Value)} (h : Pair w0 w X tb rt m tk now T L) (hr : RelT T (L.map Prod.fst) now) :
    Calls Try.prog 17 #[.pointer (some ⟨tb, 0, none⟩)] w fun r w' => r = .returned (.int .i64 (L.length : Int)) ∧ w = w' := by
  obtain ⟨F, mb, blk, G, vL, h1, h2, h3, h4, h5, h6⟩ := h
  have := len_any h1
  rw [hr.n, List.length_map] at this
  exact this
theorem pair_bytes {w0 w : World} {X : Nat → Prop} {tb rt : Nat} {m tk now : Int} {T : Tbl} {L : List (RE × Value)} (h : Pair w0 w X tb rt m tk now T L) (hr : RelT T (L.map Prod.fst) now) :
    Calls Try.prog 18 #[.pointer (some ⟨tb, 0, none⟩)] w fun r w' => r = .returned (.int .i64 ((bytesR L : Nat) : Int)) ∧ Below w.heap.size w w' := by
  obtain ⟨F, mb, blk, G, vL, h1, h2, h3, h4, h5, h6⟩ := h
  refine (bytes_any h1).mono ?_
  rintro r w' ⟨n, rfl, hn, hb⟩
  rw [hn.one hr.bytes]
  exact ⟨rfl, hb⟩
theorem pair_bytesR {w0 w : World} {X : Nat → Prop} {tb rt : Nat} {m tk now : Int} {T : Tbl} {L : List (RE × Value)} (h : Pair w0 w X tb rt m tk now T L) :
    Calls Try.prog 19 #[.pointer (some ⟨rt, 0, none⟩)] w fun r w' => r = .returned (.int .i64 ((bytesR L : Nat) : Int)) ∧ Below w.heap.size w w' := by
  obtain ⟨F, mb, blk, G, vL, h1, h2, h3, h4, h5, h6⟩ := h
  refine (bytesR_any h2).mono ?_
  rintro r w' ⟨rfl, rfl⟩
  exact ⟨rfl, Below.refl _ _⟩
theorem pair_new {w0 w1 w2 : World} {tb mb rt : Nat} {m tk : Int} {F G : Nat → Prop} {vL : Value} (h1 : TabT w1 F tb mb m tk (fun _ => none) Tbl.none) (hF : ∀ b, F b → w0.heap.size ≤ b) (hb1 : Below w0.heap.size w0 w1) (hb2 : Below w1.heap.size w1 w2) (h2 : Ref w2 G rt vL m tk 0 []) (hG : ∀ b, G b → w1.heap.size ≤ b) : Pair w0 w2 (fun _ => False) tb rt m tk 0 Tbl.none [] :=
  ⟨F, mb, _, G, vL, h1.below hb2, h2, fun b hF hG' => by have h3 := h1.lt b hF; have h4 := hG b hG'; omega, fun b hb => hb.elim (hF b) (fun h => Nat.le_trans hb1.size (hG b h)), hb1.trans (hb2.mono hb1.size), fun b hX => hX.elim⟩
theorem Pair.rt3 {w0 w : World} {X : Nat → Prop} {tb rt : Nat} {m tk now : Int} {T : Tbl} {L : List (RE × Value)} (h : Pair w0 w X tb rt m tk now T L) : ∃ a c, w.cell? ⟨rt, 3, none⟩ = some (.slice a L.length c) ∧ w.frozen? ⟨rt, 3, none⟩ = false ∧ rt < w.heap.size := by
  obtain ⟨F, mb, blk, G, vL, h1, h2, h3, h4, h5, h6⟩ := h
  obtain ⟨a, c, e⟩ := own_slice h2.row
  exact ⟨a, c, by rw [h2.c3, e], h2.fz 3, h2.lt rt h2.gr⟩
/-- what is told of entries' beginnings -/
theorem addR_at {most now : Int} {R : List RE} {i : Ip} {s : ByteArray} (h : ∀ r ∈ R, 0 ≤ r.at_) (hn : 0 ≤ now) : ∀ r ∈ (addR most now R i s).R, 0 ≤ r.at_ := by
  have htk : ∀ e : RE, 0 ≤ e.at_ → 0 ≤ (e.taken i s).at_ := fun e he => by unfold RE.taken RE.endR; split <;> exact he
  have hput : ∀ (R1 : List RE) (k : Nat) (e : RE), (∀ r ∈ R1, 0 ≤ r.at_) → 0 ≤ e.at_ → ∀ r ∈ (putR R1 k e).R, 0 ≤ r.at_ := by
    intro R1 k e h1 he r hr
    unfold putR at hr
    split at hr
    · exact h1 r ((List.eraseIdx_sublist _ _).subset hr)
    · rcases List.mem_or_eq_of_mem_set hr with h2 | h2
      · exact h1 r h2
      · rw [h2]; exact he
  unfold addR
  split
  · exact h
  · split
    · exact h
    · split
      · intro r hr
        dsimp only at hr
        split at hr
        · exact h r ((List.eraseIdx_sublist _ _).subset hr)
        · exact h r hr
      · split
        · rename_i k hk
          refine hput _ _ _ h (htk _ ?_)
          cases hr : R[k]? with
          | none => exact hn
          | some r => exact h r (List.mem_of_getElem? hr)
        · split
          · exact h
          · refine hput _ _ _ (fun r hr => ?_) (htk _ hn)
            rcases List.mem_append.1 hr with hr | hr
            · exact h r hr
            · rw [List.mem_singleton.1 hr]; exact hn
end Go.Proofs.Ytkfgapljphhmcaa
