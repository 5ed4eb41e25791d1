/- Layer 7's own answer: contract of drop. -/
import Derived.Test.YtkfgapljphhmcaaRfs3
namespace Go.Proofs.Ytkfgapljphhmcaa
open Go.RowKit Go.Maps
set_option linter.unusedVariables false
set_option maxRecDepth 20000
/-- an append among those that write -/
theorem does_append {P : Program} {ops : Array Oper} {o : Oper} {a : Act} {w : World} (hgd : o.guard = none) (s x : Operand) (t : TypeId) (ho : o.op = .call { callee := .builtin .append, args := #[s, x], argTypes := #[t, t] })
    (base : Nat) (e : TypeId) (i : TypeInfo) (z : Value) (size bytes : Nat) (ht : P.underlying t = some (.slice e)) (hi : P.info? e = some i) (hz : i.zero = some z)
    (hsize : i.size = size) (hby : i.bytes = bytes) (hzs : z.cells.size = size) (hsz : 0 < size)
    (v : Value) (n : Nat) (xs : List Value) (hs : a.eval s = v) (hown : w.ownsRow base e size v n xs)
    (ad : Addr) (m c : Nat) (news : List Value) (hx : a.eval x = .slice (some ad) m c) (hl : news.length = m * size) (hnews : ∀ j u, news[j]? = some u → w.cell? (ad.add j) = some u) (h1 : ∀ u ∈ news, u.oneCell' = true)
    (h63 : n + m ≤ maxLen) (hbytes : (n + m) * bytes ≤ 140737488355328) (hbase : base ≤ w.heap.size) :
    ∃ v' w', Does P ops o a w v' w' ∧ w'.ownsRow base e size v' (n + m) (xs ++ news) ∧ w.grownBy w' v.ownBlock ∧ (v' = .slice none 0 0 ↔ v = .slice none 0 0 ∧ m = 0) := by
  obtain ⟨v', w', hr, h2, h3, h4⟩ := run_append_own (P := P) w base t o.type e i z size bytes ht hi hz hsize hby hzs hsz v n xs hown ad m c news hl hnews h1 h63 hbytes hbase
  refine ⟨v', w', .inr ⟨by simp [Region.wanted, hgd], ?_⟩, h2, h3, h4⟩
  unfold execOp
  simp only [ho, resolve, invoke, builtin, Sem.run_bind, Sem.run_pure, Result.andThen_ok, List.map_toArray, List.map_cons, List.map_nil, hs, hx, hr]
theorem goD_append {P : Program} {ops : Array Oper} {D : World → Prop} {T : Act → World → Prop} {l : List Oper} {o : Oper} {a : Act} {w : World} (hgd : o.guard = none) (s x : Operand) (t : TypeId) (ho : o.op = .call { callee := .builtin .append, args := #[s, x], argTypes := #[t, t] })
    (base : Nat) (e : TypeId) (i : TypeInfo) (z : Value) (size bytes : Nat) (ht : P.underlying t = some (.slice e)) (hi : P.info? e = some i) (hz : i.zero = some z)
    (hsize : i.size = size) (hby : i.bytes = bytes) (hzs : z.cells.size = size) (hsz : 0 < size)
    (v : Value) (n : Nat) (xs : List Value) (hs : a.eval s = v) (hown : w.ownsRow base e size v n xs)
    (ad : Addr) (m c : Nat) (news : List Value) (hx : a.eval x = .slice (some ad) m c) (hl : news.length = m * size) (hnews : ∀ j u, news[j]? = some u → w.cell? (ad.add j) = some u) (h1 : ∀ u ∈ news, u.oneCell' = true)
    (h63 : n + m ≤ maxLen) (hbytes : (n + m) * bytes ≤ 140737488355328) (hbase : base ≤ w.heap.size)
    (h : ∀ v' w', w'.ownsRow base e size v' (n + m) (xs ++ news) → w.grownBy w' v.ownBlock → (v' = .slice none 0 0 ↔ v = .slice none 0 0 ∧ m = 0) → D w' ∧ goD P ops D T l (a.put o.dst v') w') : goD P ops D T (o :: l) a w := by
  obtain ⟨v', w', h2, h3, h4, h5⟩ := does_append (ops := ops) hgd s x t ho base e i z size bytes ht hi hz hsize hby hzs hsz v n xs hs hown ad m c news hx hl hnews h1 h63 hbytes hbase
  obtain ⟨h6, h7⟩ := h v' w' h3 h4 h5
  exact ⟨v', w', h2, h6, h7⟩
theorem ownsRow_base {w : World} {b b' e c : Nat} {v : Value} {n : Nat} {xs : List Value} (h : w.ownsRow b e c v n xs) (hb : b' ≤ b) : w.ownsRow b' e c v n xs := by
  refine ⟨h.1, ?_⟩
  rcases h.2 with h2 | ⟨g, cap, cur, h1, h2, h3⟩
  · exact .inl h2
  · exact .inr ⟨g, cap, cur, h1, Nat.le_trans hb h2, h3⟩
theorem rowE_one (L : List (RE × Value)) (h : ∀ x ∈ L, ∃ a n c, x.2 = .slice a n c) : ∀ u ∈ rowE L, u.oneCell' = true := by
  intro u hu
  obtain ⟨x, hx, hu⟩ := List.mem_flatMap.1 hu
  obtain ⟨a, n, c, hv⟩ := h x hx
  rw [hv] at hu
  simp only [entV, List.mem_cons, List.not_mem_nil, or_false] at hu
  rcases hu with rfl | rfl | rfl | rfl | rfl | rfl | rfl <;> rfl
theorem rowE_len (L : List (RE × Value)) : (rowE L).length = L.length * 7 := flat_len _ 7 (fun _ => rfl) L
theorem infoE : (Try.prog.info? 62).map (fun i => (i.zero, i.size, i.bytes)) = some (some (.agg #[.int .u32 0, .int .u32 0, .int .i64 0, .int .i64 0, .slice none 0 0, .int .i64 0, .int .i64 0]), 7, 64) := by kernel_rfl
theorem infoP : (Try.prog.info? 73).map (fun i => (i.zero, i.size, i.bytes)) = some (some (.agg #[.int .i64 0, .int .u8 0]), 2, 16) := by kernel_rfl
set_option maxHeartbeats 2000000 in
theorem drop_none {w : World} (rt : Nat) (k : Int) (hk : k < 0) :
    Calls Try.prog 21 #[.pointer (some ⟨rt, 0, none⟩), .int .i64 k] w fun r w' => r = .returned (.tuple #[]) ∧ w = w' := by
  go_enter Try.func21, Try.ntmps21
  go_wp2
  exact bodyPost_end (results_none Try.results21 _ _ _) rfl ⟨rfl, rfl⟩
/-- a reference's table in a later world -/
def RefK (G : Nat → Prop) (w : World) (rt : Nat) (most ticks now : Int) (L : List (RE × Value)) (w' : World) : Prop := ∃ G' vL', Kept G w G' w' ∧ Ref w' G' rt vL' most ticks now L
theorem take_cells {w : World} {g cap : Nat} {L : List (RE × Value)} (h : w.ownsRow 0 62 7 (.slice (some ⟨g, 0, none⟩) L.length cap) L.length (rowE L)) (k : Nat) : ∀ j u, (rowE (L.take k))[j]? = some u → w.drew.cell? ((⟨g, 0, none⟩ : Addr).add j) = some u := by
  intro j u hu
  refine h.cells (g := g) rfl j u ?_
  have : rowE L = rowE (L.take k) ++ rowE (L.drop k) := by rw [← List.flatMap_append, List.take_append_drop]
  rw [this, List.getElem?_append_left (List.getElem?_eq_some_iff.1 hu).1]
  exact hu
theorem drop_addr {w : World} {g cap : Nat} {L : List (RE × Value)} (h : w.ownsRow 0 62 7 (.slice (some ⟨g, 0, none⟩) L.length cap) L.length (rowE L)) {k : Nat} (hk : k < L.length) : ∃ AD : Addr, (if cap = k + 1 then some (⟨g, 0, none⟩ : Addr) else some ⟨g, (k + 1) * 7, none⟩) = some AD ∧ ∀ j u, (rowE (L.drop (k + 1)))[j]? = some u → w.cell? (AD.add j) = some u := by
  have hcap : L.length ≤ cap := by
    rcases h.2 with ⟨h1, _⟩ | ⟨g', cap', cur, h1, _, _, h4, _⟩
    · cases h1
    · injection h1 with _ _ h6; omega
  by_cases e : cap = k + 1
  · rw [if_pos e]
    refine ⟨_, rfl, fun j u hu => ?_⟩
    rw [List.drop_eq_nil_of_le (by omega)] at hu
    cases hu
  · rw [if_neg e]
    refine ⟨_, rfl, fun j u hu => ?_⟩
    have hs : rowE L = rowE (L.take (k + 1)) ++ rowE (L.drop (k + 1)) := by rw [← List.flatMap_append, List.take_append_drop]
    have hl : (rowE (L.take (k + 1))).length = (k + 1) * 7 := by rw [rowE_len, List.length_take, Nat.min_eq_left (by omega)]
    have := h.cells (g := g) rfl ((k + 1) * 7 + j) u (by rw [hs, List.getElem?_append_right (by omega), hl, Nat.add_sub_cancel_left]; exact hu)
    have e1 : (⟨g, 0, none⟩ : Addr).add ((k + 1) * 7 + j) = ⟨g, (k + 1) * 7 + j, none⟩ := by simp [Addr.add]
    have e2 : (⟨g, (k + 1) * 7, none⟩ : Addr).add j = ⟨g, (k + 1) * 7 + j, none⟩ := by
      rcases Nat.eq_zero_or_pos j with e | e
      · subst e; simp [Addr.add]
      · simp [Addr.add, Nat.ne_of_gt e]
    rw [e1] at this
    rw [e2]
    exact this
/-- some of the entries, in a new row -/
theorem Ref.reL {w w2 : World} {G : Nat → Prop} {rt : Nat} {vL v2 : Value} {most ticks now : Int} {L L' : List (RE × Value)} (h : Ref w G rt vL most ticks now L) (hb : Below w.heap.size w w2) (hs : L'.Sublist L) (ho : w2.ownsRow w.heap.size 62 7 v2 L'.length (rowE L')) : RefK G w rt most ticks now L' (w2.setCell ⟨rt, 3, none⟩ v2) := by
  have hrt := h.lt rt h.gr
  have hnew : ∀ b, v2.ownBlock = some b → w.heap.size ≤ b ∧ b < w2.heap.size := fun b e => ho.lt b e
  have hg := (grown_set w2 rt 3 v2).1
  have hz : (w2.setCell ⟨rt, 3, none⟩ v2).heap.size = w2.heap.size := (grown_set w2 rt 3 v2).2
  have hblk : ∀ b, b < w2.heap.size → b ≠ rt → (w2.setCell ⟨rt, 3, none⟩ v2).heap[b]? = w2.heap[b]? := fun b hb hne => hg.block b hb (by simp [hne])
  have c : ∀ o, o ≠ 3 → (w2.setCell ⟨rt, 3, none⟩ v2).cell? ⟨rt, o, none⟩ = w.cell? ⟨rt, o, none⟩ := fun o ho => by
    rw [World.cell?_setCell_other _ _ _ _ (neA (fun x => ho x.symm)), hb.cell (by exact hrt)]
  have c3 : w2.cell? ⟨rt, 3, none⟩ = some vL := by rw [hb.cell (by exact hrt)]; exact h.c3
  refine ⟨fun b => G b ∨ v2.ownBlock = some b, v2, ⟨hb.os, hb.tape, hb.output, by rw [hz]; exact hb.size, fun b hlt hG => ?_, fun b hG => hG.imp id (fun e => (hnew b e).1)⟩, ?_⟩
  · rw [hblk b (Nat.lt_of_lt_of_le hlt hb.size) (fun e => hG (by rw [e]; exact h.gr)), hb.block b hlt]
  · refine ⟨by rw [c 0 (by omega), h.c0], by rw [c 1 (by omega), h.c1], by rw [c 2 (by omega), h.c2], by rw [World.cell?_setCell_same _ _ _ c3], fun o => by rw [World.frozen?_setCell, hb.frozen (by exact hrt)]; exact h.fz o, ?_, fun x hx => ?_, h.apart.sublist hs, fun x hx => ?_, fun e => ?_, fun x hx => h.rtP x (hs.subset hx), .inl h.gr, fun b e => .inr e, fun x hx b e => .inl (h.gP x (hs.subset hx) b e), fun b hG => ?_, ⟨Nat.le_trans hs.length_le h.few.1, fun x hx => h.few.2.1 x (hs.subset hx), h.few.2.2⟩⟩
    · exact ownsRow_block (ownsRow_base ho (Nat.zero_le _)) (fun b e => hblk b (hnew b e).2 (fun x => by have := (hnew b e).1; omega))
    · have hp := h.parts x (hs.subset hx)
      exact ownsRow_block hp (fun b e => by rw [hblk b (Nat.lt_of_lt_of_le (hp.lt b e).2 hb.size) (fun y => h.rtP x (hs.subset hx) (by rw [e, y])), hb.block b (hp.lt b e).2])
    · cases e : x.2.ownBlock with
      | none => exact .inl rfl
      | some b =>
        refine .inr (fun e2 => ?_)
        have h1 := ((h.parts x (hs.subset hx)).lt b e).2
        have h2 := (hnew b e2.symm).1
        omega
    · have := (hnew rt e).1
      omega
    · rw [hz]
      rcases hG with hG | e
      · exact Nat.lt_of_lt_of_le (h.lt b hG) hb.size
      · exact (hnew b e).2
set_option maxHeartbeats 4000000 in
theorem drop_any {w : World} {G : Nat → Prop} {rt : Nat} {vL : Value} {most ticks now : Int} {L : List (RE × Value)} (h : Ref w G rt vL most ticks now L) (k : Nat) (hk : k < L.length) :
    Calls Try.prog 21 #[.pointer (some ⟨rt, 0, none⟩), .int .i64 (k : Int)] w fun r w' => r = .returned (.tuple #[]) ∧ RefK G w rt most ticks now (L.take k ++ L.drop (k + 1)) w' := by
  obtain ⟨g, cap, hvL, hg, hfz, _⟩ := h.ent (by omega)
  have hrow := h.row
  have hn32 := h.few.1
  have hrt := h.lt rt h.gr
  have H : Hid (Ref w G rt vL most ticks now L) := h
  have c3 := h.c3
  have hcap : L.length ≤ cap ∧ cap ≤ maxLen := by
    rcases hrow.2 with ⟨h1, _⟩ | ⟨g', cap', cur, h1, _, _, h4, h5, _⟩
    · rw [hvL] at h1; cases h1
    · rw [hvL] at h1; injection h1 with _ _ h6; rw [h6]; exact ⟨h4, h5⟩
  rw [hvL] at c3 hrow
  obtain ⟨i0, hi, hz0, hz1, hz2⟩ := info_parts infoE
  have hcm := hcap.2
  unfold maxLen at hcm
  have hcl1 := hcap.1
  clear hcap h
  go_enter Try.func21, Try.ntmps21
  go_upto_region 1 with fail
  refine wp_region_spineM [true, true, true, true, true, true, true, false, true, true, true, true, true, true, true] [false, false, false, false, false, false, false, true, false, false, false, false, false, false, false, true] 16 (A := ?A) (fun x => Below w.heap.size w x) (by kernel_rfl) (by kernel_rfl) (by rfl) ((Below.refl _ _).drew) ?walk ?tail
  case walk =>
    intro x hx
    have d3 : x.cell? ⟨rt, 3, none⟩ = some (.slice (some ⟨g, 0, none⟩) L.length cap) := by rw [hx.cell (by exact hrt), c3]
    have hrx := Nat.lt_of_lt_of_le hrt hx.size
    simp only [pickM]
    repeat (go_big_quiet_step (fail))
    refine wpQuiet_nil ?_
    rfl
  case tail =>
    simp only [pickM]
    obtain ⟨AD, hAD, hnAD⟩ := drop_addr hrow hk
    rw [hAD]
    have hone := fun (L' : List (RE × Value)) (hs : ∀ x ∈ L', x ∈ L) => rowE_one L' (fun x hx => by obtain ⟨a, c, e⟩ := own_slice (H.out.parts x (hs x hx)); exact ⟨a, _, c, e⟩)
    refine goD_append rfl (.const (.slice none 0 0)) (.tmp 12) 35 rfl w.heap.size 62 i0 _ 7 64 Try.underlying35 hi hz0 hz1 hz2 rfl (by decide) (.slice none 0 0) 0 [] rfl (World.ownsRow_nil _ _ _ _) ⟨g, 0, none⟩ k cap (rowE (L.take k)) rfl (by rw [rowE_len, List.length_take, Nat.min_eq_left (by omega)]) (take_cells hrow k) (hone _ (fun x hx => List.mem_of_mem_take hx)) (by unfold maxLen; omega) (by omega) (Nat.le_refl _) ?_
    intro v1 w1 ho1 hg1 _
    refine ⟨?_, ?_⟩
    · exact ⟨hg1.os, hg1.tape, hg1.output, hg1.size, fun b hb => hg1.block b hb (by intro e; cases e)⟩
    have hB1 : Below w.heap.size w w1 := ⟨hg1.os, hg1.tape, hg1.output, hg1.size, fun b hb => hg1.block b hb (by intro e; cases e)⟩
    simp only [Nat.zero_add, List.nil_append] at ho1
    have hz1' := hB1.size
    refine goD_append rfl (.tmp 13) (.tmp 20) 35 rfl w.heap.size 62 i0 _ 7 64 Try.underlying35 hi hz0 hz1 hz2 rfl (by decide) v1 k (rowE (L.take k)) rfl ho1 AD (L.length - (k + 1)) (cap - (k + 1)) (rowE (L.drop (k + 1))) rfl (by rw [rowE_len, List.length_drop]) (fun j u hu => by have h1 := hnAD j u hu; rw [hB1.cell (World.block_lt_of_cell? w _ h1)]; exact h1) (hone _ (fun x hx => List.mem_of_mem_drop hx)) (by unfold maxLen; omega) (by omega) hz1' ?_
    intro v2 w2 ho2 hg2 _
    have hB2 : Below w.heap.size w w2 := hB1.grown hg2 hz1' (fun b hb => (ho1.lt b hb).1)
    refine ⟨hB2, ?_⟩
    rw [← List.flatMap_append] at ho2
    have e3 : w2.cell? ⟨rt, 3, none⟩ = some (.slice (some ⟨g, 0, none⟩) L.length cap) := by rw [hB2.cell (by exact hrt), c3]
    have f3 : w2.frozen? ⟨rt, 3, none⟩ = false := by rw [hB2.frozen (by exact hrt)]; exact H.out.fz 3
    have z3 := Nat.lt_of_lt_of_le hrt hB2.size
    have hfin := H.out.reL hB2 (L' := L.take k ++ L.drop (k + 1)) (by rw [← List.eraseIdx_eq_take_drop_succ]; exact List.eraseIdx_sublist _ _) (by
      have e : (L.take k ++ L.drop (k + 1)).length = k + (L.length - (k + 1)) := by rw [List.length_append, List.length_take, List.length_drop, Nat.min_eq_left (by omega)]
      rw [e]; exact ho2)
    obtain ⟨a2, c2', hv2⟩ := own_slice ho2
    subst hv2
    have HF := (show Hid _ from hfin)
    clear hfin ho2 hg2 ho1 hg1 hB1 hB2 hone hnAD hrow
    unfold goD
    simp only [List.drop_succ_cons, List.drop_zero, Act.put]
    go_wp2_with fail
    exact bodyPost_end (results_none Try.results21 _ _ _) rfl ⟨rfl, HF.out⟩
end Go.Proofs.Ytkfgapljphhmcaa
