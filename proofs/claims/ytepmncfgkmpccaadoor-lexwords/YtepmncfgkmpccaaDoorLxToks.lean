/- Layer 8: slices of tokens of one's own; how far All is. -/
import Derived.Test.YtepmncfgkmpccaaDoorLxs8
namespace Go.Proofs.YtepmncfgkmpccaaDoor
open Go.RowKit
set_option linter.unusedVariables false
set_option linter.unusedSimpArgs false

def tokL (t : Lx.Tok) : List Value := [.int .i64 t.kind, .string ⟨t.s.toArray⟩, .int .i64 t.n, .int .i64 t.line]
theorem tokL_V (t : Lx.Tok) : tokV t = (tokL t).toArray := rfl
/-- v owns these tokens (of type e), among blocks from base on -/
def OwnT (e : TypeId) (w : World) (base : Nat) (v : Value) (ts : List Lx.Tok) : Prop := w.ownsRow base e 4 v ts.length (ts.flatMap tokL)
theorem OwnT.nil (e : TypeId) (w : World) (base : Nat) : OwnT e w base (.slice none 0 0) [] := World.ownsRow_nil _ _ _ _
theorem OwnT.form {e : TypeId} {w : World} {base : Nat} {v : Value} {ts : List Lx.Tok} (h : OwnT e w base v ts) : ∃ p c, v = .slice p ts.length c := by
  unfold OwnT at h
  rcases h.2 with ⟨rfl, hn⟩ | ⟨g, cap, cur, rfl, _⟩
  · exact ⟨none, 0, by rw [hn]⟩
  · exact ⟨_, _, rfl⟩
theorem OwnT.kind {e : TypeId} {w : World} {base : Nat} {v : Value} {ts : List Lx.Tok} (h : OwnT e w base v ts) : ∀ g, v.ownBlock = some g → ∃ c fz, w.heap[g]? = some (.cells c e fz) := by
  intro g hg
  unfold OwnT at h
  rcases h.2 with ⟨rfl, _⟩ | ⟨g', cap, cur, rfl, _, hgg, _⟩
  · simp [Value.ownBlock] at hg
  · simp [Value.ownBlock] at hg
    subst hg
    exact ⟨cur, _, hgg⟩
theorem OwnT.iterAt {e : TypeId} {w : World} {base : Nat} {v : Value} {ts : List Lx.Tok} (h : OwnT e w base v ts) {k : Nat} {s : ByteArray} {pos : Nat} (hk : w.heap[k]? = some (.stringIter s pos)) (pos' : Nat) : OwnT e (w.iterAt k s pos') base v ts := by
  unfold OwnT at h ⊢
  rcases h.2 with ⟨rfl, hn⟩ | ⟨g, cap, cur, rfl, hb, hg, r1, r2, r3, r4⟩
  · exact ⟨h.1, Or.inl ⟨rfl, hn⟩⟩
  · refine ⟨h.1, Or.inr ⟨g, cap, cur, rfl, hb, ?_, r1, r2, r3, r4⟩⟩
    rw [Lib.iterAt_other]
    · exact hg
    · intro e
      rw [e, hk] at hg
      cases hg
theorem OwnT.below {e : TypeId} {w w' : World} {base B : Nat} {v : Value} {ts : List Lx.Tok} (h : OwnT e w base v ts) (hb : Below B w w') (hB : w.heap.size ≤ B) : OwnT e w' base v ts := by
  unfold OwnT at h ⊢
  rcases h.2 with ⟨rfl, hn⟩ | ⟨g, cap, cur, rfl, hbg, hg, r1, r2, r3, r4⟩
  · exact ⟨h.1, Or.inl ⟨rfl, hn⟩⟩
  · refine ⟨h.1, Or.inr ⟨g, cap, cur, rfl, hbg, ?_, r1, r2, r3, r4⟩⟩
    have hlt : g < w.heap.size := (Array.getElem?_eq_some_iff.1 hg).1
    rw [hb.block g (by omega)]
    exact hg
theorem flat_snoc (ts : List Lx.Tok) (t : Lx.Tok) : (ts ++ [t]).flatMap tokL = ts.flatMap tokL ++ tokL t := by simp
/-- one token more, made in a block of its own -/
theorem app_tok {ops : Array Oper} {rest : List Oper} {o : Oper} {a : Act} {w : World} {Q : Exit → Act → World → Prop} (hgd : o.guard = none) (s x : Operand) (st e : TypeId)
    (ho : o.op = .call { callee := .builtin .append, args := #[s, x], argTypes := #[st, st] }) (hu : Tryd.prog.underlying st = some (.slice e))
    (hinfo : (Tryd.prog.info? e).map (fun i => (i.zero, i.size, i.bytes)) = some (some (.agg #[.int .i64 0, .string ⟨#[]⟩, .int .i64 0, .int .i64 0]), 4, 40))
    (base : Nat) (v : Value) (ts : List Lx.Tok) (hs : a.eval s = v) (HO : Hid (OwnT e w base v ts)) (hbase : base ≤ w.heap.size) (hn : ts.length ≤ 1000000) (t : Lx.Tok)
    (B : Nat) (hB : B = w.heap.size) (hx : a.eval x = .slice (some ⟨B, 0, none⟩) 1 1)
    (h : ∀ v' w', Hid (OwnT e w' base v' (ts ++ [t])) → Hid (∀ B W, B ≤ base → B ≤ W.heap.size → Below B W w → Below B W w') → Hid (Lib.OthersKept e none w w') → w.heap.size ≤ w'.heap.size → wpList Tryd.prog ops Q rest (a.put o.dst v') w') :
    wpList Tryd.prog ops Q (o :: rest) a (w.alloc (.cells (tokV t) e)) := by
  subst hB
  obtain ⟨i0, hib, hz0, hz1, hz2⟩ := info_parts hinfo
  have hO : OwnT e w base v ts := HO
  have hO2 := World.ownsRow.alloc hO (.cells (tokV t) e)
  refine wpList_append_own _ hgd s x st ho base e i0 _ 4 40 hu hib hz0 hz1 hz2 rfl (by decide) v ts.length (ts.flatMap tokL) hs hO2 ⟨w.heap.size, 0, none⟩ 1 1 (tokL t) hx rfl ?_ ?_ (by unfold maxLen; omega) (by omega) (by simp; omega) ?_
  · intro j u hj
    match j, hj with
    | 0, hj => simp [tokL] at hj; subst hj; simp [Addr.add, tokV]
    | 1, hj => simp [tokL] at hj; subst hj; simp [Addr.add, tokV]
    | 2, hj => simp [tokL] at hj; subst hj; simp [Addr.add, tokV]
    | 3, hj => simp [tokL] at hj; subst hj; simp [Addr.add, tokV]
  · intro u hu
    simp [tokL] at hu
    rcases hu with rfl | rfl | rfl | rfl <;> rfl
  · intro v' w' hown hgrow _
    have hrow : ∀ g, v.ownBlock = some g → ∃ c fz, (w.alloc (.cells (tokV t) e)).heap[g]? = some (.cells c e fz) := OwnT.kind (w := w.alloc (.cells (tokV t) e)) (base := base) (ts := ts) hO2
    refine h v' w' ?_ ?_ ?_ ?_
    · show OwnT _ _ _ _ _
      unfold OwnT
      rw [flat_snoc, List.length_append]
      exact hown
    · intro B W hB hBW hb
      exact (hb.alloc (Nat.le_trans hBW hb.size) _).grown hgrow (by have := hb.size; simp; omega) (fun g hg => Nat.le_trans hB (World.ownsRow.lt hO2 g hg).1)
    · exact Lib.OthersKept.grown ((Lib.OthersKept.refl _ _ w).alloc _) hgrow hrow
    · have := hgrow.size
      simp at this
      omega
theorem kept_iter {e : TypeId} {w w' : World} (h : Lib.OthersKept e none w w') {k : Nat} {s : ByteArray} {pos : Nat} (hk : w.heap[k]? = some (.stringIter s pos)) : w'.heap[k]? = some (.stringIter s pos) :=
  h k _ hk (fun e => by cases e) (fun _ _ e => by cases e)
/-! ### how far All is -/
theorem lex_nil (f : Nat) (line : Int) : Lx.lexF f [] line = .ok [] := by cases f <;> rfl
theorem lex_line (f : Nat) (c : UInt8) (l : List UInt8) (line : Int) (h : c.toNat = 10) : Lx.lexF (f + 1) (c :: l) line = Lx.lexF f l (line + 1) := by
  rw [Lx.lexF, if_pos h]
theorem lex_blank (f : Nat) (c : UInt8) (l : List UInt8) (line : Int) (h0 : c.toNat ≠ 10) (h : Lx.bt Lx.blank c = true) : Lx.lexF (f + 1) (c :: l) line = Lx.lexF f l line := by
  rw [Lx.lexF, if_neg h0, if_pos h]
theorem lex_rem (f : Nat) (c : UInt8) (l : List UInt8) (line : Int) (h : c.toNat = 35) : Lx.lexF (f + 1) (c :: l) line = Lx.lexF f (l.drop (Lx.front Lx.inLine l).length) line := by
  rw [Lx.lexF, if_neg (by omega), if_neg (by simp [Lx.bt, Lx.blank]; omega), if_pos h]
theorem lex_bad (f : Nat) (c : UInt8) (l : List UInt8) (line : Int) (h0 : c.toNat ≠ 10) (h1 : Lx.bt Lx.blank c = false) (h2 : c.toNat ≠ 35) (h : (Lx.one (c :: l)).2 = 0) : Lx.lexF (f + 1) (c :: l) line = .error line := by
  rw [Lx.lexF, if_neg h0, if_neg (by rw [h1]; simp), if_neg h2, if_pos h]
theorem lex_tok (f : Nat) (c : UInt8) (l : List UInt8) (line : Int) (h0 : c.toNat ≠ 10) (h1 : Lx.bt Lx.blank c = false) (h2 : c.toNat ≠ 35) (h : (Lx.one (c :: l)).2 ≠ 0) : Lx.lexF (f + 1) (c :: l) line = Lx.more [(Lx.one (c :: l)).1.at line] (Lx.lexF f ((c :: l).drop (Lx.one (c :: l)).2) line) := by
  rw [Lx.lexF, if_neg h0, if_neg (by rw [h1]; simp), if_neg h2, if_neg h]
def Ast (s : ByteArray) (R : Except Int (List Lx.Tok)) (pos next : Nat) (acc : List Lx.Tok) (line : Nat) : Prop :=
  ∃ cur f : Nat, ((pos ≤ next ∧ cur = next) ∨ (next ≤ pos ∧ cur = pos)) ∧ s.size ≤ cur + f ∧ cur ≤ s.size ∧ acc.length ≤ cur ∧ line ≤ cur + 1 ∧ Lx.Whole s pos next ∧ Lx.more acc (Lx.lexF f (s.data.toList.drop cur) (line : Int)) = R
theorem Ast.skip {s : ByteArray} {R : Except Int (List Lx.Tok)} {pos next line : Nat} {acc : List Lx.Tok} (h : Ast s R pos next acc line) (hlt : pos < next) : Ast s R (pos + (Utf8.decode s pos).2) next acc line ∧ pos + (Utf8.decode s pos).2 ≤ s.size := by
  obtain ⟨cur, f, h1, h3, h4, h5, h5b, h6, h7⟩ := h
  have hw := h6.2 pos (Nat.le_refl _) hlt
  refine ⟨⟨cur, f, Or.inl ⟨hw, by omega⟩, h3, h4, h5, h5b, h6.later (by omega), h7⟩, ?_⟩
  have := h6.1
  omega
theorem Ast.here {s : ByteArray} {R : Except Int (List Lx.Tok)} {pos next line : Nat} {acc : List Lx.Tok} (h : Ast s R pos next acc line) (hlt : ¬ pos < next) (hs : pos < s.size) : ∃ f, s.size ≤ pos + f + 1 ∧ acc.length ≤ pos ∧ line ≤ pos + 1 ∧ Lx.more acc (Lx.lexF (f + 1) (s.data.toList.getD pos 0 :: s.data.toList.drop (pos + 1)) (line : Int)) = R := by
  obtain ⟨cur, f, h1, h3, h4, h5, h5b, h6, h7⟩ := h
  obtain rfl : cur = pos := by omega
  obtain ⟨f', rfl⟩ : ∃ f', f = f' + 1 := ⟨f - 1, by omega⟩
  rw [drop_at' s cur hs] at h7
  exact ⟨f', by omega, h5, h5b, h7⟩
theorem Ast.end_ {s : ByteArray} {R : Except Int (List Lx.Tok)} {next line : Nat} {acc : List Lx.Tok} (h : Ast s R s.size next acc line) : R = .ok acc := by
  obtain ⟨cur, f, h1, h3, h4, h5, h5b, h6, h7⟩ := h
  have := h6.1
  obtain rfl : cur = s.size := by omega
  rw [drop_nil_of s s.size (by omega), lex_nil] at h7
  rw [← h7]
  simp [Lx.more]
theorem Ast.to {s : ByteArray} {R : Except Int (List Lx.Tok)} {pos n f line : Nat} {acc : List Lx.Tok} (hn : 1 ≤ n) (hf : s.size ≤ pos + f + 1) (ha : acc.length ≤ pos + n) (hl : line ≤ pos + n + 1) (hw : Lx.Whole s pos (pos + n))
    (h : Lx.more acc (Lx.lexF f (s.data.toList.drop (pos + n)) (line : Int)) = R) : Ast s R (pos + 1) (pos + n) acc line :=
  ⟨pos + n, f, Or.inl ⟨by omega, rfl⟩, by omega, hw.1, by omega, by omega, hw.later (by omega), h⟩
theorem Ast.step {s : ByteArray} {R : Except Int (List Lx.Tok)} {pos f line next : Nat} {acc : List Lx.Tok} (hs : pos < s.size) (hnx : next ≤ pos) (hf : s.size ≤ pos + f + 1) (ha : acc.length ≤ pos) (hl : line ≤ pos + 2)
    (h : Lx.more acc (Lx.lexF f (s.data.toList.drop (pos + 1)) (line : Int)) = R) : Ast s R (pos + 1) next acc line :=
  ⟨pos + 1, f, Or.inr ⟨by omega, rfl⟩, by omega, by omega, by omega, by omega, ⟨by omega, fun q h1 h2 => by omega⟩, h⟩
end Go.Proofs.YtepmncfgkmpccaaDoor
