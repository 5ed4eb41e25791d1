/- Layer 7's own answer in memory: an entry turned, an entry more. -/
import Derived.Test.YtkfgapljphhmcaaRfs5
namespace Go.Proofs.Ytkfgapljphhmcaa
open Go.RowKit Go.Maps
set_option linter.unusedVariables false
set_option maxRecDepth 20000
/-- an append to an owned row: the same block, or a new one -/
theorem run_append_own2 {P : Program} (w : World) (base : Nat) (t ty e : TypeId) (i : TypeInfo) (z : Value) (size bytes : Nat) (ht : P.underlying t = some (.slice e)) (hi : P.info? e = some i) (hz : i.zero = some z)
    (hsize : i.size = size) (hby : i.bytes = bytes) (hzs : z.cells.size = size) (hsz : 0 < size)
    (v : Value) (n : Nat) (xs : List Value) (hown : w.ownsRow base e size v n xs)
    (a : Addr) (m c : Nat) (news : List Value) (hl : news.length = m * size) (hnews : ∀ j u, news[j]? = some u → w.cell? (a.add j) = some u) (h1 : ∀ u ∈ news, u.oneCell' = true)
    (h63 : n + m ≤ maxLen) (hbytes : (n + m) * bytes ≤ 140737488355328) (hbase : base ≤ w.heap.size) :
    ∃ v' w', (Builtin.append_ #[t, t] ty #[v, .slice (some a) m c]).run P w = .ok v' w' ∧ w'.ownsRow base e size v' (n + m) (xs ++ news) ∧ w.grownBy w' v.ownBlock ∧
      (v'.ownBlock = v.ownBlock ∨ ∃ b, v'.ownBlock = some b ∧ w.heap.size ≤ b) := by
  obtain ⟨v', w', hr, h2, h3, h4⟩ := run_append_own (P := P) w base t ty e i z size bytes ht hi hz hsize hby hzs hsz v n xs hown a m c news hl hnews h1 h63 hbytes hbase
  refine ⟨v', w', hr, h2, h3, ?_⟩
  rcases hown.2 with ⟨hv, hn⟩ | ⟨g, cap, cur, hv, hbg, hg, hnc, hcm, hcs, htake⟩
  · have hx : xs = [] := List.eq_nil_of_length_eq_zero (by rw [hown.1, hn]; simp)
    subst hv
    obtain ⟨v2, w2, hr2, k2, _, _⟩ := run_append_own (P := P) w w.heap.size t ty e i z size bytes ht hi hz hsize hby hzs hsz (.slice none 0 0) n xs ⟨hown.1, .inl ⟨rfl, hn⟩⟩ a m c news hl hnews h1 h63 hbytes (Nat.le_refl _)
    rw [hr] at hr2
    cases hr2
    cases hb : v'.ownBlock with
    | none => exact .inl rfl
    | some b => exact .inr ⟨b, rfl, (k2.lt b hb).1⟩
  · subst hv
    by_cases hroom : n + m ≤ cap
    · obtain ⟨w2, hr2, _, _⟩ := run_append_fits (P := P) w base t ty e i size ht hi hsize g n cap xs hown a m c news hl hnews h1 hroom
      rw [hr] at hr2
      cases hr2
      exact .inl rfl
    · have holds : ∀ j u, xs[j]? = some u → w.cell? ((⟨g, 0, none⟩ : Addr).add j) = some u := hown.cells (g := g) rfl
      have hs9 : n + m ≤ 9223372036854775807 := by simp only [maxLen] at h63; omega
      subst hsize
      subst hby
      have hr2 := run_append_grow (P := P) w t ty e i z ht hi hz ⟨g, 0, none⟩ n cap xs hown.1 holds a m c news hl hnews (by omega) (by omega) (growslice_fits (by omega) hbytes)
      rw [hr] at hr2
      cases hr2
      exact .inr ⟨_, rfl, Nat.le_refl _⟩
/-- an append among those that write, with where its block lies -/
theorem goD_append2 {P : Program} {ops : Array Oper} {D : World → Prop} {T : Act → World → Prop} {l : List Oper} {o : Oper} {a : Act} {w : World} (hgd : o.guard = none) (s x : Operand) (t : TypeId) (ho : o.op = .call { callee := .builtin .append, args := #[s, x], argTypes := #[t, t] })
    (base : Nat) (e : TypeId) (i : TypeInfo) (z : Value) (size bytes : Nat) (ht : P.underlying t = some (.slice e)) (hi : P.info? e = some i) (hz : i.zero = some z)
    (hsize : i.size = size) (hby : i.bytes = bytes) (hzs : z.cells.size = size) (hsz : 0 < size)
    (v : Value) (n : Nat) (xs : List Value) (hs : a.eval s = v) (hown : w.ownsRow base e size v n xs)
    (ad : Addr) (m c : Nat) (news : List Value) (hx : a.eval x = .slice (some ad) m c) (hl : news.length = m * size) (hnews : ∀ j u, news[j]? = some u → w.cell? (ad.add j) = some u) (h1 : ∀ u ∈ news, u.oneCell' = true)
    (h63 : n + m ≤ maxLen) (hbytes : (n + m) * bytes ≤ 140737488355328) (hbase : base ≤ w.heap.size)
    (h : ∀ v' w', w'.ownsRow base e size v' (n + m) (xs ++ news) → w.grownBy w' v.ownBlock → (v'.ownBlock = v.ownBlock ∨ ∃ b, v'.ownBlock = some b ∧ w.heap.size ≤ b) → D w' ∧ goD P ops D T l (a.put o.dst v') w') : goD P ops D T (o :: l) a w := by
  obtain ⟨v', w', hr, h2, h3, h4⟩ := run_append_own2 (P := P) w base t o.type e i z size bytes ht hi hz hsize hby hzs hsz v n xs hown ad m c news hl hnews h1 h63 hbytes hbase
  obtain ⟨h6, h7⟩ := h v' w' h2 h3 h4
  refine ⟨v', w', .inr ⟨by simp [Region.wanted, hgd], ?_⟩, h6, h7⟩
  unfold execOp
  simp only [ho, resolve, invoke, builtin, Sem.run_bind, Sem.run_pure, Result.andThen_ok, List.map_toArray, List.map_cons, List.map_nil, hs, hx, hr]
theorem wpList_append_own2 {P : Program} {ops : Array Oper} {rest : List Oper} {o : Oper} {a : Act} {w : World} {Q : Exit → Act → World → Prop} (hgd : o.guard = none) (s x : Operand) (t : TypeId) (ho : o.op = .call { callee := .builtin .append, args := #[s, x], argTypes := #[t, t] })
    (base : Nat) (e : TypeId) (i : TypeInfo) (z : Value) (size bytes : Nat) (ht : P.underlying t = some (.slice e)) (hi : P.info? e = some i) (hz : i.zero = some z)
    (hsize : i.size = size) (hby : i.bytes = bytes) (hzs : z.cells.size = size) (hsz : 0 < size)
    (v : Value) (n : Nat) (xs : List Value) (hs : a.eval s = v) (hown : w.ownsRow base e size v n xs)
    (ad : Addr) (m c : Nat) (news : List Value) (hx : a.eval x = .slice (some ad) m c) (hl : news.length = m * size) (hnews : ∀ j u, news[j]? = some u → w.cell? (ad.add j) = some u) (h1 : ∀ u ∈ news, u.oneCell' = true)
    (h63 : n + m ≤ maxLen) (hbytes : (n + m) * bytes ≤ 140737488355328) (hbase : base ≤ w.heap.size)
    (h : ∀ v' w', w'.ownsRow base e size v' (n + m) (xs ++ news) → w.grownBy w' v.ownBlock → (v'.ownBlock = v.ownBlock ∨ ∃ b, v'.ownBlock = some b ∧ w.heap.size ≤ b) → wpList P ops Q rest (a.put o.dst v') w') : wpList P ops Q (o :: rest) a w :=
  wpList_plain hgd fun _ hK => by
    obtain ⟨v', w', hr, h2, h3, h4⟩ := run_append_own2 (P := P) w base t o.type e i z size bytes ht hi hz hsize hby hzs hsz v n xs hown ad m c news hl hnews h1 h63 hbytes hbase
    unfold Oper.wp execOp
    simp only [ho, resolve, invoke, builtin, Sem.run_bind, Sem.run_pure, Result.andThen_ok, List.map_toArray, List.map_cons, List.map_nil, hs, hx, hr]
    exact hK _ _ (h v' w' h2 h3 h4)
/-- one element more, made in a block of its own -/
theorem goD_lit {P : Program} {ops : Array Oper} {D : World → Prop} {T : Act → World → Prop} {l : List Oper} {o : Oper} {a : Act} {w : World} (hgd : o.guard = none) (v : Value) (w' : World)
    (hr : (execOp a.eval o).run P w = .ok (.value v) w') (h : D w' ∧ goD P ops D T l (a.put o.dst v) w') : goD P ops D T (o :: l) a w :=
  ⟨v, w', .inr ⟨by simp [Region.wanted, hgd], hr⟩, h.1, h.2⟩
/-- a cell of a row turned: as a list -/
theorem flat_set {α : Type} (f : α → List Value) (c : Nat) (hf : ∀ x, (f x).length = c) (L : List α) (k : Nat) (x y : α) (hx : L[k]? = some x) (o : Nat) (ho : o < c) (u : Value) (hy : f y = (f x).set o u) : (L.set k y).flatMap f = (L.flatMap f).set (k * c + o) u := by
  induction L generalizing k with
  | nil => cases hx
  | cons z L ih =>
    cases k with
    | zero =>
      simp at hx
      subst hx
      rw [List.set_cons_zero, List.flatMap_cons, List.flatMap_cons, hy, Nat.zero_mul, Nat.zero_add, List.set_append_left _ _ (by rw [hf]; exact ho)]
    | succ k =>
      rw [List.set_cons_succ, List.flatMap_cons, List.flatMap_cons, ih k (by simpa using hx), List.set_append_right _ _ (by rw [hf, Nat.succ_mul]; omega), hf]
      congr 2
      rw [Nat.succ_mul]
      omega
/-- an entry turned in its place -/
theorem Ref.turnE {w w' : World} {G : Nat → Prop} {rt : Nat} {vL : Value} {most ticks now : Int} {L : List (RE × Value)} (h : Ref w G rt vL most ticks now L) (k : Nat) (x : RE × Value) (hx : L[k]? = some x) (e' : RE) (v' : Value)
    (hs : w.heap.size ≤ w'.heap.size) (hb : ∀ b, G b → vL.ownBlock ≠ some b → x.2.ownBlock ≠ some b → w'.heap[b]? = w.heap[b]?)
    (hrow : w'.ownsRow 0 62 7 vL L.length (rowE (L.set k (e', v'))))
    (hpart : w'.ownsRow 0 73 2 v' e'.ps.length (rowP e'.ps))
    (hv : v'.ownBlock = x.2.ownBlock ∨ ∀ b, v'.ownBlock = some b → w.heap.size ≤ b)
    (hfew : e'.ps.length ≤ 2000 ∧ ∀ p ∈ e'.ps, p.1 < 2000) :
    Ref w' (fun b => G b ∨ v'.ownBlock = some b) rt vL most ticks now (L.set k (e', v')) := by
  have hmx := List.mem_of_getElem? hx
  have hkl := (List.getElem?_eq_some_iff.1 hx).1
  have hrt : w'.heap[rt]? = w.heap[rt]? := hb rt h.gr h.rtL (h.rtP x hmx)
  have c : ∀ o, w'.cell? ⟨rt, o, none⟩ = w.cell? ⟨rt, o, none⟩ := fun o => World.cell?_of_block (a := ⟨rt, o, none⟩) hrt
  have f : ∀ o, w'.frozen? ⟨rt, o, none⟩ = w.frozen? ⟨rt, o, none⟩ := fun o => World.frozen?_of_block (a := ⟨rt, o, none⟩) hrt
  have hlt := h.lt
  have old : ∀ y ∈ L, ∀ b, y.2.ownBlock = some b → b < w.heap.size := fun y hy b e => h.lt b (h.gP y hy b e)
  have oldL : ∀ b, vL.ownBlock = some b → b < w.heap.size := fun b e => h.lt b (h.gL b e)
  have hself : ∀ y j, L[j]? = some y → j ≠ k → y.2.ownBlock = none ∨ y.2.ownBlock ≠ x.2.ownBlock := by
    intro y j hj hne
    have hp := List.pairwise_iff_getElem.1 h.apart
    have hjl := (List.getElem?_eq_some_iff.1 hj).1
    have ey : L[j] = y := (List.getElem?_eq_some_iff.1 hj).2
    have ex : L[k] = x := (List.getElem?_eq_some_iff.1 hx).2
    rcases Nat.lt_or_ge j k with g | g
    · have := hp j k hjl hkl g
      rw [ey, ex] at this
      exact this
    · have := hp k j hkl hjl (by omega)
      rw [ey, ex] at this
      rcases this with h1 | h1
      · cases hyb : y.2.ownBlock with
        | none => exact .inl rfl
        | some b => exact .inr (by rw [h1]; intro e; cases e)
      · exact .inr (fun e => h1 e.symm)
  have hmem : ∀ y ∈ L.set k (e', v'), (y = (e', v')) ∨ ∃ j, L[j]? = some y ∧ j ≠ k := by
    intro y hy
    obtain ⟨j, hj, rfl⟩ := List.mem_iff_getElem.1 hy
    by_cases e : k = j
    · subst e
      exact .inl (by simp)
    · refine .inr ⟨j, ?_, fun e2 => e e2.symm⟩
      rw [List.getElem_set_ne e]
      exact List.getElem?_eq_getElem _
  have hnew : ∀ y j, L[j]? = some y → j ≠ k → y.2.ownBlock = none ∨ y.2.ownBlock ≠ v'.ownBlock := by
    intro y j hj hne
    rcases hv with hv | hv
    · rw [hv]; exact hself y j hj hne
    · cases hyb : y.2.ownBlock with
      | none => exact .inl rfl
      | some q => exact .inr (fun e => by have h1 := old y (List.mem_of_getElem? hj) q hyb; have h2 := hv q e.symm; omega)
  refine ⟨by rw [c, h.c0], by rw [c, h.c1], by rw [c, h.c2], by rw [c, h.c3], fun o => by rw [f, h.fz], by rw [List.length_set]; exact hrow, ?_, ?_, ?_, h.rtL, ?_, .inl h.gr, fun b e => .inl (h.gL b e), ?_, ?_, ?_⟩
  · intro y hy
    rcases hmem y hy with rfl | ⟨j, hj, hne⟩
    · exact hpart
    · have hym := List.mem_of_getElem? hj
      exact ownsRow_block (h.parts y hym) (fun b e => hb b (h.gP y hym b e) (fun e2 => by
        rcases h.rowAp y hym with g | g
        · rw [g] at e; cases e
        · exact g (by rw [e, e2])) (fun e2 => by
        rcases hself y j hj hne with g | g
        · rw [g] at e; cases e
        · exact g (by rw [e, e2])))
  · rw [List.pairwise_iff_getElem]
    intro i j hi hj hij
    rw [List.length_set] at hi hj
    by_cases e1 : k = i
    · subst e1
      rw [List.getElem_set_self, List.getElem_set_ne (by omega)]
      rcases hnew L[j] j (List.getElem?_eq_getElem hj) (by omega) with g | g
      · show v'.ownBlock = none ∨ v'.ownBlock ≠ L[j].2.ownBlock
        rw [g]
        cases v'.ownBlock with
        | none => exact .inl rfl
        | some q => exact .inr (fun e => by cases e)
      · exact .inr (fun e => g e.symm)
    · by_cases e2 : k = j
      · subst e2
        rw [List.getElem_set_self, List.getElem_set_ne e1]
        exact hnew L[i] i (List.getElem?_eq_getElem hi) (by omega)
      · rw [List.getElem_set_ne e1, List.getElem_set_ne e2]
        exact List.pairwise_iff_getElem.1 h.apart i j hi hj hij
  · intro y hy
    rcases hmem y hy with rfl | ⟨j, hj, hne⟩
    · show v'.ownBlock = none ∨ v'.ownBlock ≠ vL.ownBlock
      rcases hv with hv | hv
      · rw [hv]; exact h.rowAp x hmx
      · cases hvb : v'.ownBlock with
        | none => exact .inl rfl
        | some b => exact .inr (fun e => by have h1 := oldL b e.symm; have h2 := hv b hvb; omega)
    · exact h.rowAp y (List.mem_of_getElem? hj)
  · intro y hy
    rcases hmem y hy with rfl | ⟨j, hj, hne⟩
    · show v'.ownBlock ≠ some rt
      rcases hv with hv | hv
      · rw [hv]; exact h.rtP x hmx
      · intro e; have h1 := h.lt rt h.gr; have h2 := hv rt e; omega
    · exact h.rtP y (List.mem_of_getElem? hj)
  · intro y hy b hyb
    rcases hmem y hy with rfl | ⟨j, hj, hne⟩
    · exact .inr hyb
    · exact .inl (h.gP y (List.mem_of_getElem? hj) b hyb)
  · intro b hG
    rcases hG with hG | hG
    · exact Nat.lt_of_lt_of_le (h.lt b hG) hs
    · exact (hpart.lt b hG).2
  · refine ⟨by rw [List.length_set]; exact h.few.1, fun y hy => ?_, h.few.2.2⟩
    rcases hmem y hy with rfl | ⟨j, hj, hne⟩
    · exact hfew
    · exact h.few.2.1 y (List.mem_of_getElem? hj)
/-- how many bytes in all is told -/
theorem Ref.setAll {w : World} {G : Nat → Prop} {rt : Nat} {g n cap : Nat} {most ticks now : Int} {L : List (RE × Value)} (h : Ref w G rt (.slice (some ⟨g, 0, none⟩) n cap) most ticks now L) (k : Nat) (x : RE × Value) (hx : L[k]? = some x) (a : Int) :
    Kept G w G (w.setCell ⟨g, k * 7 + 5, none⟩ (.int .i64 a)) ∧ Ref (w.setCell ⟨g, k * 7 + 5, none⟩ (.int .i64 a)) G rt (.slice (some ⟨g, 0, none⟩) n cap) most ticks now (L.set k ({ x.1 with all := a }, x.2)) := by
  obtain ⟨_, _, hl⟩ := own_slice h.row
  injection hl with _ hl _
  subst hl
  have hst := h.row.stored (k * 7 + 5) (.int .i64 a)
  rw [← flat_set (fun x : RE × Value => entV x.1 x.2) 7 (fun _ => rfl) L k x ({ x.1 with all := a }, x.2) hx 5 (by omega) _ rfl] at hst
  have hmx := List.mem_of_getElem? hx
  have hG : G g := h.gL g rfl
  refine ⟨Kept.of_grown hst.2 hG, ?_⟩
  have hz : (w.setCell ⟨g, k * 7 + 5, none⟩ (.int .i64 a)).heap.size = w.heap.size := by simp
  have := h.turnE (w' := w.setCell ⟨g, k * 7 + 5, none⟩ (.int .i64 a)) k x hx { x.1 with all := a } x.2 (by omega) (fun b hGb h1 _ => hst.2.block b (h.lt b hGb) (fun e => h1 (by rw [e]; rfl))) hst.1
    (ownsRow_block (h.parts x hmx) (fun b e => hst.2.block b (h.lt b (h.gP x hmx b e)) (fun e2 => by
      rcases h.rowAp x hmx with g | g
      · rw [g] at e; cases e
      · exact g (by rw [e, e2]; rfl)))) (.inl rfl) (h.few.2.1 x hmx)
  refine ⟨this.c0, this.c1, this.c2, this.c3, this.fz, this.row, this.parts, this.apart, this.rowAp, this.rtL, this.rtP, h.gr, h.gL, ?_, fun b hG => by rw [hz]; exact h.lt b hG, this.few⟩
  intro y hy b e
  rcases this.gP y hy b e with g | g
  · exact g
  · exact h.gP x hmx b g
/-- a part more: its row stands in w1, the entry names it -/
theorem Ref.setPs {w w1 : World} {G : Nat → Prop} {rt : Nat} {g n cap : Nat} {most ticks now : Int} {L : List (RE × Value)} (h : Ref w G rt (.slice (some ⟨g, 0, none⟩) n cap) most ticks now L) (k : Nat) (x : RE × Value) (hx : L[k]? = some x) (ps' : List (Nat × UInt8)) (v' : Value)
    (hk : Kept (fun b => x.2.ownBlock = some b) w (fun b => v'.ownBlock = some b) w1)
    (hpart : w1.ownsRow 0 73 2 v' ps'.length (rowP ps')) (hv : v'.ownBlock = x.2.ownBlock ∨ ∀ b, v'.ownBlock = some b → w.heap.size ≤ b) (hfew : ps'.length ≤ 2000 ∧ ∀ p ∈ ps', p.1 < 2000) :
    Kept G w (fun b => G b ∨ v'.ownBlock = some b) (w1.setCell ⟨g, k * 7 + 4, none⟩ v') ∧ Ref (w1.setCell ⟨g, k * 7 + 4, none⟩ v') (fun b => G b ∨ v'.ownBlock = some b) rt (.slice (some ⟨g, 0, none⟩) n cap) most ticks now (L.set k ({ x.1 with ps := ps' }, v')) := by
  obtain ⟨_, _, hl⟩ := own_slice h.row
  injection hl with _ hl _
  subst hl
  have hmx := List.mem_of_getElem? hx
  have hG : G g := h.gL g rfl
  have hxg : x.2.ownBlock ≠ some g := by
    rcases h.rowAp x hmx with e | e
    · rw [e]; intro e2; cases e2
    · exact e
  have hgl := h.lt g hG
  have hrow1 : w1.ownsRow 0 62 7 (.slice (some ⟨g, 0, none⟩) L.length cap) L.length (rowE L) := ownsRow_block h.row (fun b e => by
    injection e with e
    subst e
    exact hk.block g hgl hxg)
  have hst := hrow1.stored (k * 7 + 4) v'
  rw [← flat_set (fun x : RE × Value => entV x.1 x.2) 7 (fun _ => rfl) L k x ({ x.1 with ps := ps' }, v') hx 4 (by omega) _ rfl] at hst
  have hz : (w1.setCell ⟨g, k * 7 + 4, none⟩ v').heap.size = w1.heap.size := by simp
  have hvg : v'.ownBlock ≠ some g := by
    rcases hv with e | e
    · rw [e]; exact hxg
    · intro e2; have := e g e2; omega
  refine ⟨⟨by rw [hst.2.os, hk.os], by rw [hst.2.tape, hk.tape], by rw [hst.2.output, hk.output], by rw [hz]; exact hk.size, fun b hb hG' => ?_, fun b hb => ?_⟩, ?_⟩
  · rw [hst.2.block b (Nat.lt_of_lt_of_le hb hk.size) (fun e => hG' (by injection e with e; rw [e]; exact hG)), hk.block b hb (fun e => hG' (h.gP x hmx b e))]
  · rcases hb with hb | hb
    · exact .inl hb
    · rcases hk.fresh b hb with e | e
      · exact .inl (h.gP x hmx b e)
      · exact .inr e
  · refine h.turnE k x hx { x.1 with ps := ps' } v' (by rw [hz]; exact hk.size) (fun b hGb h1 h2 => ?_) hst.1 ?_ hv hfew
    · have hb := h.lt b hGb
      rw [hst.2.block b (Nat.lt_of_lt_of_le hb hk.size) (fun e => h1 (by rw [e]; rfl)), hk.block b hb h2]
    · exact ownsRow_block hpart (fun b e => hst.2.block b (hpart.lt b e).2 (fun e2 => hvg (by rw [e, e2])))
/-- an entry more: its row stands in w1 -/
theorem Ref.push {w w1 : World} {G : Nat → Prop} {rt : Nat} {vL v' : Value} {most ticks now : Int} {L : List (RE × Value)} (h : Ref w G rt vL most ticks now L) (e : RE) (he : e.ps = [])
    (hk : Kept (fun b => vL.ownBlock = some b) w (fun b => v'.ownBlock = some b) w1)
    (hrow : w1.ownsRow 0 62 7 v' (L.length + 1) (rowE L ++ entV e (.slice none 0 0))) (hv : v'.ownBlock = vL.ownBlock ∨ ∃ b, v'.ownBlock = some b ∧ w.heap.size ≤ b) (hn : L.length < 32) :
    Kept G w (fun b => G b ∨ v'.ownBlock = some b) (w1.setCell ⟨rt, 3, none⟩ v') ∧ Ref (w1.setCell ⟨rt, 3, none⟩ v') (fun b => G b ∨ v'.ownBlock = some b) rt v' most ticks now (L ++ [(e, .slice none 0 0)]) := by
  have hrt := h.lt rt h.gr
  have hg := (grown_set w1 rt 3 v').1
  have hz : (w1.setCell ⟨rt, 3, none⟩ v').heap.size = w1.heap.size := (grown_set w1 rt 3 v').2
  have hb1 : ∀ b, G b → vL.ownBlock ≠ some b → w1.heap[b]? = w.heap[b]? := fun b hG h1 => hk.block b (h.lt b hG) h1
  have c1 : ∀ o, w1.cell? ⟨rt, o, none⟩ = w.cell? ⟨rt, o, none⟩ := fun o => World.cell?_of_block (a := ⟨rt, o, none⟩) (hb1 rt h.gr h.rtL)
  have c : ∀ o, o ≠ 3 → (w1.setCell ⟨rt, 3, none⟩ v').cell? ⟨rt, o, none⟩ = w.cell? ⟨rt, o, none⟩ := fun o ho => by rw [World.cell?_setCell_other _ _ _ _ (neA (fun x => ho x.symm)), c1]
  have hv' : v'.ownBlock ≠ some rt := by
    rcases hv with e | ⟨b, e, hb⟩
    · rw [e]; exact h.rtL
    · rw [e]; intro e2; injection e2 with e2; omega
  have hwb : ∀ b, b < w1.heap.size → b ≠ rt → (w1.setCell ⟨rt, 3, none⟩ v').heap[b]? = w1.heap[b]? := fun b hb hne => hg.block b hb (by simp [hne])
  have hvy : ∀ y ∈ L, y.2.ownBlock = none ∨ y.2.ownBlock ≠ v'.ownBlock := by
    intro y hy
    rcases hv with e | ⟨b, e, hb⟩
    · rw [e]; exact h.rowAp y hy
    · cases hyb : y.2.ownBlock with
      | none => exact .inl rfl
      | some q => exact .inr (by rw [e]; intro e2; injection e2 with e2; have := h.lt q (h.gP y hy q hyb); omega)
  refine ⟨⟨by rw [hg.os, hk.os], by rw [hg.tape, hk.tape], by rw [hg.output, hk.output], by rw [hz]; exact hk.size, fun b hb hG' => ?_, fun b hb => ?_⟩, ?_⟩
  · rw [hwb b (Nat.lt_of_lt_of_le hb hk.size) (fun e => hG' (by rw [e]; exact h.gr)), hk.block b hb (fun e => hG' (h.gL b e))]
  · rcases hb with hb | hb
    · exact .inl hb
    · rcases hk.fresh b hb with e | e
      · exact .inl (h.gL b e)
      · exact .inr e
  · refine ⟨by rw [c 0 (by omega), h.c0], by rw [c 1 (by omega), h.c1], by rw [c 2 (by omega), h.c2], by rw [World.cell?_setCell_same _ _ _ ((c1 3).trans h.c3)], fun o => ?_, ?_, ?_, ?_, ?_, hv', ?_, .inl h.gr, fun b e => .inr e, ?_, ?_, ?_⟩
    · rw [World.frozen?_setCell, World.frozen?_of_block (a := ⟨rt, o, none⟩) (hb1 rt h.gr h.rtL)]
      exact h.fz o
    · have e1 : rowE (L ++ [(e, .slice none 0 0)]) = rowE L ++ entV e (.slice none 0 0) := by simp [List.flatMap_append]
      rw [e1, List.length_append]
      exact ownsRow_block hrow (fun b e => hwb b (hrow.lt b e).2 (fun e2 => hv' (by rw [e, e2])))
    · intro y hy
      rcases List.mem_append.1 hy with hy | hy
      · have hp := h.parts y hy
        refine ownsRow_block hp (fun b e => ?_)
        rw [hwb b (Nat.lt_of_lt_of_le (hp.lt b e).2 hk.size) (fun e2 => h.rtP y hy (by rw [e, e2])), hb1 b (h.gP y hy b e) (fun e2 => by
          rcases h.rowAp y hy with g | g
          · rw [g] at e; cases e
          · exact g (by rw [e, e2]))]
      · rw [List.mem_singleton.1 hy, he]
        exact World.ownsRow_nil _ _ _ _
    · rw [List.pairwise_append]
      refine ⟨h.apart, List.pairwise_singleton _ _, fun y hy z hz => ?_⟩
      rw [List.mem_singleton.1 hz]
      cases hyb : y.2.ownBlock with
      | none => exact .inl rfl
      | some q => exact .inr (fun e => by cases e)
    · intro y hy
      rcases List.mem_append.1 hy with hy | hy
      · exact hvy y hy
      · rw [List.mem_singleton.1 hy]; exact .inl rfl
    · intro y hy
      rcases List.mem_append.1 hy with hy | hy
      · exact h.rtP y hy
      · rw [List.mem_singleton.1 hy]; intro e; cases e
    · intro y hy b e
      rcases List.mem_append.1 hy with hy | hy
      · exact .inl (h.gP y hy b e)
      · rw [List.mem_singleton.1 hy] at e; cases e
    · intro b hG
      rw [hz]
      rcases hG with hG | hG
      · exact Nat.lt_of_lt_of_le (h.lt b hG) hk.size
      · exact (hrow.lt b hG).2
    · refine ⟨by rw [List.length_append]; simp; omega, fun y hy => ?_, h.few.2.2⟩
      rcases List.mem_append.1 hy with hy | hy
      · exact h.few.2.1 y hy
      · rw [List.mem_singleton.1 hy, he]
        exact ⟨by simp, fun p hp => absurd hp List.not_mem_nil⟩
/-- the owner of a row's block -/
theorem kept_row {w w' : World} {v v' : Value} (hg : w.grownBy w' v.ownBlock) (hv : v'.ownBlock = v.ownBlock ∨ ∃ b, v'.ownBlock = some b ∧ w.heap.size ≤ b) : Kept (fun b => v.ownBlock = some b) w (fun b => v'.ownBlock = some b) w' :=
  ⟨hg.os, hg.tape, hg.output, hg.size, fun k hk hn => hg.block k hk (fun e => hn e.symm), fun b hb => by
    rcases hv with e | ⟨q, e, hq⟩
    · exact .inl (by rw [← e]; exact hb)
    · rw [e] at hb; injection hb with hb; exact .inr (by omega)⟩
end Go.Proofs.Ytkfgapljphhmcaa
