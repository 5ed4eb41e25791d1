/- DefragOrders: for any text, sizes and order, a text in parts, in any order, some of them twice with other bytes behind, is the whole, once, with the part that was missing, and nothing is left; no condition. -/
import Derived.Test.YtkfgapljphhmcaaDfw
import Derived.Test.YtkfgapljphhmcaaDfOr
import Derived.Test.YtkfgapljphhmcaaLift
import Derived.Test.YtkfgapljphhmcaaNets
namespace Go.Proofs.Ytkfgapljphhmcaa.defragOrders
open Go.ChangeShapes Go.WideShapes Go.ChangeAt Go.RowKit Go.Maps
open Go.ChangeMaps (open_string shut_string)
set_option linter.unusedVariables false
set_option maxRecDepth 20000

/-- what the walk is told of a slice of numbers that came in -/
def IsRow (k : IntKind) (w : World) (a : Option Addr) (len cap : Nat) (zs : List Int) : Prop :=
  (a = none ∧ len = 0 ∧ cap = 0 ∧ zs = []) ∨
  ∃ x, a = some x ∧ len ≤ cap ∧ cap ≤ maxLen ∧ zs.length = cap ∧ (∀ i, i < zs.length → w.cell? (x.add i) = some (.int k (zs.getD i 0))) ∧ ∀ n ∈ zs, (Lit.int k n).wf = true
theorem IsRow.at {w : World} {a : Option Addr} {len cap : Nat} {zs : List Int} (h : IsRow .i64 w a len cap zs) : len ≤ 9223372036854775807 ∧ ∀ j, j < len → ∃ x : Addr, a = some x ∧ w.cell? (x.add j) = some (.int .i64 (zs.getD j 0)) := by
  rcases h with ⟨_, rfl, _⟩ | ⟨x, rfl, h1, h2, h3, h4, _⟩
  · exact ⟨by omega, fun j hj => absurd hj (Nat.not_lt_zero _)⟩
  · exact ⟨by unfold maxLen at h2; omega, fun j hj => ⟨x, rfl, h4 j (by omega)⟩⟩
theorem infoI : (Try.prog.info? 3).map (fun i => (i.zero, i.size, i.bytes)) = some (some (.int .i64 0), 1, 8) := by kernel_rfl
theorem infoB : (Try.prog.info? 4).map (fun i => (i.zero, i.size, i.bytes)) = some (some (.bool false), 1, 1) := by kernel_rfl
/-- how long part j may be -/
def vOf (len : Nat) (zs : List Int) (j : Nat) : Nat := if j < len then 8 + 8 * (zs.getD j 0 % 4).toNat else 8
theorem vOf_b (len : Nat) (zs : List Int) (j : Nat) : 8 ≤ vOf len zs j ∧ vOf len zs j ≤ 32 ∧ vOf len zs j % 8 = 0 := by
  unfold vOf
  split <;> omega
def rowA (f : Nat → Nat) (j : Nat) : List Value := (List.range j).map fun i => Value.int .i64 ((f i : Nat) : Int)
theorem rowA_succ (f : Nat → Nat) (j : Nat) : rowA f (j + 1) = rowA f j ++ [.int .i64 ((f j : Nat) : Int)] := by
  unfold rowA
  rw [List.range_succ, List.map_append]
  rfl
/-- the two rows of numbers while they are made -/
structure Made (w0 wr : World) (va vn : Value) (f g : Nat → Nat) (j : Nat) : Prop where
  a : wr.ownsRow w0.heap.size 3 1 va j (rowA f j)
  n : wr.ownsRow w0.heap.size 3 1 vn j (rowA g j)
  ne : va.ownBlock = none ∨ va.ownBlock ≠ vn.ownBlock
  nil : va = .slice none 0 0 ↔ j = 0
  niln : vn = .slice none 0 0 ↔ j = 0
  bel : Below w0.heap.size w0 wr
theorem Made.len {w0 wr : World} {va vn : Value} {f g : Nat → Nat} {j : Nat} (h : Made w0 wr va vn f g j) : (∃ a c, va = .slice a j c) ∧ (∃ a c, vn = .slice a j c) := by
  constructor
  · rcases h.a.2 with ⟨h1, h2⟩ | ⟨b, cap, cur, h1, _⟩
    · exact ⟨none, 0, by rw [h1, h2]⟩
    · exact ⟨_, _, h1⟩
  · rcases h.n.2 with ⟨h1, h2⟩ | ⟨b, cap, cur, h1, _⟩
    · exact ⟨none, 0, by rw [h1, h2]⟩
    · exact ⟨_, _, h1⟩
theorem rows_apart {w : World} {b : Nat} {va vn : Value} {f g : Nat → Nat} {i j : Nat} (ha : w.ownsRow b 3 1 va i (rowA f i)) (hn : w.ownsRow b 3 1 vn j (rowA g j)) (hi : 0 < i) (hj : 0 < j) (hf : f 0 = 0) (hg : 1 ≤ g 0) : va.ownBlock ≠ vn.ownBlock := by
  intro e
  have h0 : (rowA f i)[0]? = some (.int .i64 0) := by
    unfold rowA
    rw [List.getElem?_map, List.getElem?_range hi]
    simp [hf]
  have h1 : (rowA g j)[0]? = some (.int .i64 ((g 0 : Nat) : Int)) := by
    unfold rowA
    rw [List.getElem?_map, List.getElem?_range hj]
    rfl
  cases hb : va.ownBlock with
  | none =>
    rcases ha.2 with ⟨_, h2⟩ | ⟨q, cap, cur, h2, _⟩
    · omega
    · rw [h2] at hb; cases hb
  | some q =>
    have c0 := ha.cells hb 0 _ h0
    have c1 := hn.cells (e.symm.trans hb) 0 _ h1
    rw [c0] at c1
    injection c1 with c1
    injection c1 with _ c1
    omega
theorem Made.ne' {w0 wr : World} {va vn : Value} {f g : Nat → Nat} {j : Nat} (h : Made w0 wr va vn f g j) : vn.ownBlock = none ∨ vn.ownBlock ≠ va.ownBlock := by
  rcases h.ne with h1 | h1
  · cases hb : vn.ownBlock with
    | none => exact .inl rfl
    | some q => exact .inr (by rw [h1]; intro e; cases e)
  · exact .inr (Ne.symm h1)
theorem Made.mid {w0 wr w1 : World} {va vn : Value} {f g : Nat → Nat} {j : Nat} (h : Made w0 wr va vn f g j) {o : Obj} (hg : (wr.alloc o).grownBy w1 va.ownBlock) : w1.ownsRow w0.heap.size 3 1 vn j (rowA g j) ∧ Below w0.heap.size w0 w1 := by
  refine ⟨(h.n.alloc o).kept hg h.ne', ?_⟩
  exact (h.bel.alloc h.bel.size o).grown hg (by have := h.bel.size; simp; omega) (fun k hk => (h.a.lt k hk).1)
theorem Made.step {w0 wr w1 w2 : World} {va vn v1 v2 : Value} {f g : Nat → Nat} {j : Nat} (h : Made w0 wr va vn f g j) (hf : f 0 = 0) (hg0 : 1 ≤ g 0) {o1 o2 : Obj} (ho1 : w1.ownsRow w0.heap.size 3 1 v1 (j + 1) (rowA f j ++ [.int .i64 ((f j : Nat) : Int)])) (hg1 : (wr.alloc o1).grownBy w1 va.ownBlock) (hn1 : ¬ v1 = .slice none 0 0)
    (ho2 : w2.ownsRow w0.heap.size 3 1 v2 (j + 1) (rowA g j ++ [.int .i64 ((g j : Nat) : Int)])) (hg2 : (w1.alloc o2).grownBy w2 vn.ownBlock) (hn2 : ¬ v2 = .slice none 0 0) : Made w0 w2 v1 v2 f g (j + 1) := by
  rw [← rowA_succ] at ho1 ho2
  obtain ⟨hm1, hm2⟩ := h.mid hg1
  have hk : v1.ownBlock = none ∨ v1.ownBlock ≠ vn.ownBlock := by
    rcases Nat.eq_zero_or_pos j with e | e
    · have := h.niln.2 e
      rw [this]
      cases hb : v1.ownBlock with
      | none => exact .inl rfl
      | some q => exact .inr (fun x => by cases x)
    · exact .inr (rows_apart ho1 hm1 (by omega) e hf hg0)
  have ho1' := (ho1.alloc o2).kept hg2 hk
  refine ⟨ho1', ho2, .inr (rows_apart ho1' ho2 (by omega) (by omega) hf hg0), ⟨fun x => absurd x hn1, fun x => by omega⟩, ⟨fun x => absurd x hn2, fun x => by omega⟩, ?_⟩
  exact (hm2.alloc hm2.size o2).grown hg2 (by have := hm2.size; simp; omega) (fun k hk => (hm1.lt k hk).1)
/-- a row that is made -/
structure Row (w : World) (g : Nat) (f : Nat → Value) (P : Nat) : Prop where
  c : ∀ j, j < P → w.cell? ⟨g, j, none⟩ = some (f j)
  f : ∀ o, w.frozen? ⟨g, o, none⟩ = false
  lt : g < w.heap.size
theorem Row.block {w w' : World} {g : Nat} {f : Nat → Value} {P : Nat} (h : Row w g f P) (hb : w'.heap[g]? = w.heap[g]?) (hs : w.heap.size ≤ w'.heap.size) : Row w' g f P :=
  ⟨fun j hj => by rw [World.cell?_of_block (a := ⟨g, j, none⟩) hb, h.c j hj], fun o => by rw [World.frozen?_of_block (a := ⟨g, o, none⟩) hb, h.f o], Nat.lt_of_lt_of_le h.lt hs⟩
theorem Row.below {w w' : World} {g : Nat} {f : Nat → Value} {P : Nat} (h : Row w g f P) {B : Nat} (hb : Below B w w') (hg : g < B) : Row w' g f P := h.block (hb.block g hg) hb.size
theorem Row.set {w : World} {g : Nat} {f : Nat → Value} {P : Nat} (h : Row w g f P) (k : Nat) (v : Value) (hk : k < P) : Row (w.setCell ⟨g, k, none⟩ v) g (fun j => if j = k then v else f j) P := by
  refine ⟨fun j hj => ?_, fun o => by rw [World.frozen?_setCell]; exact h.f o, by simpa using h.lt⟩
  by_cases e : j = k
  · subst e
    rw [World.cell?_setCell_same _ _ _ (h.c j hj)]
    simp
  · rw [World.cell?_setCell_other _ _ _ _ (neA (fun h => e h.symm)), h.c j hj]
    simp [e]
theorem row_of {w : World} {b e : Nat} {v : Value} {P : Nat} {f : Nat → Value} (h : w.ownsRow b e 1 v P ((List.range P).map f)) (hP : 0 < P) : ∃ g cap, v = .slice (some ⟨g, 0, none⟩) P cap ∧ b ≤ g ∧ Row w g f P := by
  rcases h.2 with ⟨_, h2⟩ | ⟨g, cap, cur, h1, h2, h3, _⟩
  · omega
  · refine ⟨g, cap, h1, h2, ⟨fun j hj => ?_, fun o => ?_, ?_⟩⟩
    · have hb : v.ownBlock = some g := by rw [h1]; rfl
      have := h.cells hb j (f j) (by rw [List.getElem?_map, List.getElem?_range hj]; rfl)
      rcases Nat.eq_zero_or_pos j with e | e
      · subst e; simpa [Addr.add] using this
      · simpa [Addr.add, Nat.ne_of_gt e] using this
    · simp [World.frozen?, h3]
    · exact (Array.getElem?_eq_some_iff.1 h3).1
def key7 : Lit := nmL (ipN 7 0 true)
/-- the table while the parts come -/
structure TT (L P : Nat) (v : Nat → Nat) (s : ByteArray) (wt : Nat → Bool) (T : Tbl) : Prop where
  other : ∀ kl, kl ≠ key7 → T.S kl = none
  n : T.n = if (T.S key7).isSome then 1 else 0
  came : lefts P wt ≠ 0 → Came L P v s wt ((T.S key7).getD Ent.zero)
  done : lefts P wt = 0 → T.S key7 = none
theorem TT.zero (L P : Nat) (v : Nat → Nat) (s : ByteArray) (hP : 0 < P) : TT L P v s (fun _ => false) Tbl.none :=
  ⟨fun kl _ => rfl, rfl, fun _ => Came.zero L P v s hP, fun _ => rfl⟩
theorem TT.step {L P : Nat} {v : Nat → Nat} {s body : ByteArray} {wt : Nat → Bool} {T : Tbl} (h : TT L P v s wt T) (hs : s.size = L) (hL : 0 < L ∧ L ≤ 600) (hv : ∀ j, 8 ≤ v j ∧ v j % 8 = 0) (hP : cutA L v P = L) (hlast : ∀ j, j < P → cutA L v j < L) (h2 : 2 ≤ P) (k : Nat) (hk : k < P) (hw : lefts P wt ≠ 0)
    (hb : body.size = cutN L v k) (hbs : wt k = false → ∀ j, j < cutN L v k → body.data.toList.getD j 0 = s.data.toList.getD (cutA L v k + j) 0) (mo : Bool) (hmo : mo = decide (k + 1 < P)) :
    ∃ a : Ans, T.add 1 (ipN 7 ((cutA L v k : Nat) : Int) mo) body = a ∧ a.err = 0 ∧ a.done = decide (lefts P (setW wt k) = 0) ∧ (lefts P (setW wt k) = 0 → a.text = s) ∧ (lefts P (setW wt k) ≠ 0 → a.text = ⟨#[]⟩) ∧ TT L P v s (setW wt k) a.T := by
  have hA1 : cutA L v (k + 1) = cutA L v k + cutN L v k := rfl
  have hle := cutA_le L v (k + 1)
  have hN1 : 1 ≤ cutN L v k := by unfold cutN; have h3 := hv k; have := hlast k hk; omega
  have hn7 : nmL (ipN 7 ((cutA L v k : Nat) : Int) mo) = key7 := rfl
  have hpart : partB (ipN 7 ((cutA L v k : Nat) : Int) mo) = true := by
    show (mo || decide (0 < ((cutA L v k : Nat) : Int))) = true
    rw [hmo]
    by_cases hl : k + 1 < P
    · simp [hl]
    · have h3 : 0 < cutA L v k := by
        have h4 := cutA_mono L v (show 1 ≤ k from by omega)
        have h5 : cutA L v 1 = 0 + min (v 0) (L - 0) := rfl
        have h6 := hv 0
        omega
      simp [h3]
  have hmod : mo = true → body.size % 8 = 0 := fun hm => by
    rw [hmo] at hm
    have hl := of_decide_eq_true hm
    have h3 := hlast (k + 1) hl
    have h4 := hv k
    rw [hb]
    have h5 : cutN L v k = v k := by
      rw [hA1] at h3
      unfold cutN at h3 ⊢
      omega
    rw [h5]; exact h4.2
  have hf : faultC 1 (T.S (nmL (ipN 7 ((cutA L v k : Nat) : Int) mo))).isSome T.n (ipN 7 ((cutA L v k : Nat) : Int) mo) body.size = 0 := by
    rw [hn7]
    refine fault_ok (by omega) (by show (0 : Int) ≤ ((cutA L v k : Nat) : Int); omega) hmod (by show ((cutA L v k : Nat) : Int) + _ ≤ 2000; omega) ?_
    cases hx : (T.S key7).isSome
    · exact .inr (by rw [h.n, hx]; decide)
    · exact .inl rfl
  have hc := (h.came hw).step hL.1 hP k hk hlast hb hbs
  have hwi : T.with key7 (ipN 7 ((cutA L v k : Nat) : Int) mo) body = ((T.S key7).getD Ent.zero).take (cutA L v k) (decide (k + 1 < P)) body := by
    unfold Tbl.with
    show ((T.S key7).getD Ent.zero).take (((cutA L v k : Nat) : Int).toNat) mo body = _
    rw [Int.toNat_natCast, hmo]
  obtain ⟨e1, he1⟩ : ∃ e1, e1 = ((T.S key7).getD Ent.zero).take (cutA L v k) (decide (k + 1 < P)) body := ⟨_, rfl⟩
  rw [← he1] at hwi hc
  have hwh := hc.whole hL.1 (fun j => by have := hv j; omega) hP hlast
  by_cases hz : lefts P (setW wt k) = 0
  · rw [decide_eq_true hz] at hwh
    refine ⟨_, Tbl.add_whole _ _ _ _ hpart hf (by rw [hn7, hwi]; exact hwh), rfl, by simp [hz], fun _ => ?_, fun x => absurd hz x, ?_⟩
    · show (T.with (nmL (ipN 7 ((cutA L v k : Nat) : Int) mo)) _ body).text = s
      rw [hn7, hwi]
      exact hc.text hs hP hz (by omega)
    · refine ⟨fun kl hkl => ?_, ?_, fun x => absurd hz x, fun _ => Tbl.del_S _ _⟩
      · show (T.del key7).S kl = none
        rw [Tbl.del_other _ _ _ hkl]
        exact h.other kl hkl
      · show (T.del key7).n = if ((T.del key7).S key7).isSome then 1 else 0
        rw [Tbl.del_S]
        show T.n - (if (T.S key7).isSome then 1 else 0) = 0
        rw [h.n]
        omega
  · rw [decide_eq_false hz] at hwh
    refine ⟨_, Tbl.add_open _ _ _ _ hpart hf (by rw [hn7, hwi]; exact hwh), rfl, by simp [hz], fun x => absurd x hz, fun _ => rfl, ?_⟩
    show TT L P v s (setW wt k) (T.put (nmL (ipN 7 ((cutA L v k : Nat) : Int) mo)) (T.with (nmL (ipN 7 ((cutA L v k : Nat) : Int) mo)) (ipN 7 ((cutA L v k : Nat) : Int) mo) body))
    rw [hn7, hwi]
    refine ⟨fun kl hkl => ?_, ?_, fun _ => ?_, fun x => absurd x hz⟩
    · rw [Tbl.put_other _ _ _ _ hkl]
      exact h.other kl hkl
    · rw [Tbl.put_S]
      show T.n + (if (T.S key7).isSome then 0 else 1) = 1
      rw [h.n]
      split <;> rfl
    · rw [Tbl.put_S]
      exact hc
theorem TT.bytes {L P : Nat} {v : Nat → Nat} {s : ByteArray} {wt : Nat → Bool} {T : Tbl} (h : TT L P v s wt T) (hw : lefts P wt = 0) : T.n = 0 ∧ ∀ n, Sums T.S n → n = 0 := by
  have h7 := h.done hw
  have hall : ∀ kl, T.S kl = none := fun kl => by
    by_cases e : kl = key7
    · rw [e]; exact h7
    · exact h.other kl e
  refine ⟨by rw [h.n, h7]; rfl, fun n hn => hn.one ⟨[], List.nodup_nil, fun kl => ?_, rfl⟩⟩
  rw [hall kl]
  simp
theorem lefts_all (P : Nat) : lefts P (fun _ => false) = P := by show ((List.range P).filter (fun _ => true)).length = P; rw [List.filter_eq_self.2 (fun _ _ => rfl), List.length_range]
theorem sub_facts (s : ByteArray) (a n : Nat) (h : a + n ≤ s.size) : (s.extract a (a + n)).size = n ∧ ∀ q, q < n → (s.extract a (a + n)).data.toList.getD q 0 = s.data.toList.getD (a + q) 0 := by
  constructor
  · rw [ByteArray.size_extract]; omega
  · intro q hq
    have hs : s.data.size = s.size := rfl
    rw [ByteArray.data_extract, List.getD_eq_getElem?_getD, List.getD_eq_getElem?_getD, Array.toList_extract]
    simp only [List.extract_eq_take_drop]
    rw [List.getElem?_take_of_lt (by omega), List.getElem?_drop]
/-- all of a round -/
structure Rnd (w0 wr : World) (tb mb g1 g2 g3 P : Nat) (f g : Nat → Nat) (wt : Nat → Bool) (T : Tbl) (F : Nat → Prop) (blk : Lit → Option Nat) : Prop where
  tab : TabT wr F tb mb 1 9 blk T
  r1 : Row wr g1 (fun i => .int .i64 ((f i : Nat) : Int)) P
  r2 : Row wr g2 (fun i => .int .i64 ((g i : Nat) : Int)) P
  r3 : Row wr g3 (fun i => .bool (wt i)) P
  n1 : ¬ F g1
  n2 : ¬ F g2
  n3 : ¬ F g3
  d1 : g1 ≠ g3
  d2 : g2 ≠ g3
  w3 : w0.heap.size ≤ g3
  fr : ∀ b, F b → w0.heap.size ≤ b
  bel : Below w0.heap.size w0 wr
theorem Rnd.below {w0 wr w' : World} {tb mb g1 g2 g3 P : Nat} {f g : Nat → Nat} {wt : Nat → Bool} {T : Tbl} {F : Nat → Prop} {blk : Lit → Option Nat} (h : Rnd w0 wr tb mb g1 g2 g3 P f g wt T F blk) (hb : Below wr.heap.size wr w') : Rnd w0 w' tb mb g1 g2 g3 P f g wt T F blk :=
  ⟨h.tab.below hb, h.r1.below hb h.r1.lt, h.r2.below hb h.r2.lt, h.r3.below hb h.r3.lt, h.n1, h.n2, h.n3, h.d1, h.d2, h.w3, h.fr, h.bel.trans (hb.mono h.bel.size)⟩
theorem Rnd.set {w0 wr : World} {tb mb g1 g2 g3 P : Nat} {f g : Nat → Nat} {wt : Nat → Bool} {T : Tbl} {F : Nat → Prop} {blk : Lit → Option Nat} (h : Rnd w0 wr tb mb g1 g2 g3 P f g wt T F blk) (k : Nat) (hk : k < P) : Rnd w0 (wr.setCell ⟨g3, k, none⟩ (.bool true)) tb mb g1 g2 g3 P f g (setW wt k) T F blk := by
  have hg := (grown_set wr g3 k (.bool true)).1
  refine ⟨h.tab.block (by simp) (fun b hF => hg.block b (h.tab.lt b hF) (fun e => h.n3 (by injection e with e; rw [← e]; exact hF))), h.r1.block (hg.block g1 h.r1.lt (by simp [h.d1])) (by simp), h.r2.block (hg.block g2 h.r2.lt (by simp [h.d2])) (by simp), ?_, h.n1, h.n2, h.n3, h.d1, h.d2, h.w3, h.fr, h.bel.setCell (p := ⟨g3, k, none⟩) h.w3 _⟩
  have := h.r3.set k (.bool true) hk
  refine ⟨fun j hj => ?_, this.f, this.lt⟩
  rw [this.c j hj]
  unfold setW
  split <;> rfl
theorem Rnd.add {w0 wr w' : World} {tb mb g1 g2 g3 P : Nat} {f g : Nat → Nat} {wt : Nat → Bool} {T T' : Tbl} {F : Nat → Prop} {blk : Lit → Option Nat} (h : Rnd w0 wr tb mb g1 g2 g3 P f g wt T F blk) (k : TabK F wr tb mb 1 9 T' w') : ∃ F' blk', Rnd w0 w' tb mb g1 g2 g3 P f g wt T' F' blk' := by
  obtain ⟨F', blk', k, t⟩ := k
  have hk := k.below h.bel.size h.fr
  exact ⟨F', blk', t, h.r1.block (k.block g1 h.r1.lt h.n1) k.size, h.r2.block (k.block g2 h.r2.lt h.n2) k.size, h.r3.block (k.block g3 h.r3.lt h.n3) k.size, k.not g1 h.r1.lt h.n1, k.not g2 h.r2.lt h.n2, k.not g3 h.r3.lt h.n3, h.d1, h.d2, h.w3, hk.2, h.bel.trans hk.1⟩
set_option maxHeartbeats 4000000 in
theorem walk_core (s : ByteArray) (a1 : Option Addr) (len1 cap1 : Nat) (z1 : List Int) (a2 : Option Addr) (len2 cap2 : Nat) (z2 : List Int) (w : World) (L : Nat) (hL : s.size = L) (h9 : 9 ≤ L) (h600 : L ≤ 600) (r1 : IsRow .i64 w a1 len1 cap1 z1) (r2 : IsRow .i64 w a2 len2 cap2 z2) :
    Calls Try.prog 4 #[.string s, .slice a1 len1 cap1, .slice a2 len2 cap2] w fun e w' => e = .returned (.bool true) ∧ Below w.heap.size w w' := by
  obtain ⟨i0, hi, hz0, hz1, hz2⟩ := info_parts infoI
  obtain ⟨l1, c1⟩ := r1.at
  obtain ⟨l2, c2⟩ := r2.at
  have C1 := (show Hid _ from c1)
  have C2 := (show Hid _ from c2)
  obtain ⟨v, hv⟩ : ∃ v, v = vOf len1 z1 := ⟨_, rfl⟩
  have HV := (show Hid _ from hv)
  clear r1 r2 c1 c2 hv
  go_enter Try.func4, Try.ntmps4
  go_wp2_with fail
  go_loopw [7, 8, 9] (fun va vn k wr => ∃ j : Nat, k = .int .i64 ((cutA L v j : Nat) : Int) ∧ Hid (∀ i, i < j → cutA L v i < L) ∧ Hid (Made w wr va vn (cutA L v) (cutN L v) j)) (fun _ _ k _ => L - (intOf k).toNat)
  case atStart => exact ⟨0, rfl, show Hid _ from fun i hi => absurd hi (Nat.not_lt_zero _), ⟨World.ownsRow_nil _ _ _ _, World.ownsRow_nil _ _ _ _, .inl rfl, ⟨fun _ => rfl, fun _ => rfl⟩, ⟨fun _ => rfl, fun _ => rfl⟩, Below.refl _ _⟩⟩
  case round =>
    obtain ⟨j, rfl, HJ, HM⟩ := hrel
    by_cases hlt : cutA L v j < L
    · obtain ⟨⟨ga, ca, rfl⟩, ⟨gn, cn, rfl⟩⟩ := HM.out.len
      have hjL : j ≤ 600 := by have h1 := cutA_ge L v (fun i => by rw [HV.out]; have := vOf_b len1 z1 i; omega) j HJ.out; omega
      obtain ⟨A, hA⟩ : ∃ A, A = cutA L v j := ⟨_, rfl⟩
      rw [← hA] at hlt ⊢
      have HA := (show Hid _ from hA)
      clear hA
      obtain ⟨V, hV⟩ : ∃ V, V = v j := ⟨_, rfl⟩
      have V8 : 8 ≤ V ∧ V ≤ 32 := by rw [hV, HV.out]; have := vOf_b len1 z1 j; omega
      have HVV := (show Hid _ from hV)
      clear hV
      obtain ⟨NN, hNN⟩ : ∃ NN, NN = cutN L v j := ⟨_, rfl⟩
      have HN : Hid ((if (L : Int) - (A : Int) < (V : Int) then (L : Int) - (A : Int) else (V : Int)) = (NN : Int)) := by
        show _ = _
        rw [hNN]
        unfold cutN
        rw [← HA.out, ← HVV.out]
        split <;> omega
      have HNN := (show Hid _ from hNN)
      have n1 : 1 ≤ NN ∧ NN ≤ 32 ∧ A + NN ≤ L := by
        rw [hNN]
        unfold cutN
        rw [← HA.out, ← HVV.out]
        omega
      clear hNN
      by_cases hj : j < len1
      focus
        obtain ⟨x, rfl, hcx⟩ := C1.out j hj
        have hpl := fun w' => place_any (z1.getD j 0) 4 w' (by omega) (by omega)
        have hcx' : wr.cell? (x.add j) = some (.int .i64 (z1.getD j 0)) := (HM.out.bel.cell (World.block_lt_of_cell? w _ hcx)).trans hcx
        obtain ⟨m, hm⟩ : ∃ m : Nat, z1.getD j 0 % 4 = (m : Int) := ⟨(z1.getD j 0 % 4).toNat, by omega⟩
        have hm3 : m ≤ 3 := by omega
        have HmV : Hid (8 + 8 * (m : Int) = (V : Int)) := by
          show _ = _
          rw [HVV.out, HV.out]
          unfold vOf
          rw [if_pos hj]
          omega
        rw [hm] at hpl
        obtain ⟨z, hz⟩ : ∃ z, z = z1.getD j 0 := ⟨_, rfl⟩
        rw [← hz] at hpl hcx'
        clear hcx hm hz
        go_upto_region 9 with (refine (hpl _).mono ?_; rintro r w' ⟨rfl, rfl⟩)
        rw [HmV.out]
        have hmn : (if (L : Int) - (A : Int) < (V : Int) then (L : Int) - (A : Int) else (V : Int)) = ((NN : Nat) : Int) := HN.out
        clear hpl hcx' HmV
        go_upto_region 10 with fail
        try rw [hmn]
        clear hmn hm3
      rotate_left 1
      focus
        have HmV : Hid ((8 : Int) = (V : Int)) := by
          show _ = _
          rw [HVV.out, HV.out]
          unfold vOf
          rw [if_neg hj]
          rfl
        go_upto_region 9 with fail
        have hmn : (if (L : Int) - (A : Int) < 8 then (L : Int) - (A : Int) else 8) = ((NN : Nat) : Int) := by rw [HmV.out]; exact HN.out
        clear HmV
        go_upto_region 10 with fail
        try rw [hmn]
        clear hmn
      rotate_left 1
      all_goals
        have hjc : j ≤ 600 := hjL
        go_wp2_with (first
          | (at_builtin; refine wpList_append_own _ rfl (.tmp 53) (.tmp 55) 43 rfl w.heap.size 3 i0 (.int .i64 0) 1 8 Try.underlying43 hi hz0 hz1 hz2 rfl (by decide) _ _ _ rfl (HM.out.a.alloc _) ⟨wr.heap.size, 0, none⟩ 1 1 [.int .i64 (A : Int)] rfl rfl ?c1 ?c2 ?c3 ?c4 ?c5 ?_)
          | fail)
        case c1 =>
          intro j u hj
          match j, hj with
          | 0, hj => simp at hj; subst hj; simp [Addr.add]
        case c2 => intro u hu; simp at hu; subst hu; rfl
        case c3 => unfold maxLen; omega
        case c4 => omega
        case c5 => have := HM.out.bel.size; simp; omega
        intro v1 w1 hown1 hgrow1 hnil1
        obtain ⟨hm1, hm2⟩ := HM.out.mid hgrow1
        have O1 := (show Hid _ from And.intro hown1 (And.intro hgrow1 hnil1))
        have M1 := (show Hid _ from And.intro hm1 hm2)
        clear hown1 hgrow1 hnil1 hm1 hm2
        go_wp2_with (first
          | (at_builtin; refine wpList_append_own _ rfl (.tmp 57) (.tmp 59) 43 rfl w.heap.size 3 i0 (.int .i64 0) 1 8 Try.underlying43 hi hz0 hz1 hz2 rfl (by decide) _ _ _ rfl (M1.out.1.alloc _) ⟨w1.heap.size, 0, none⟩ 1 1 [.int .i64 (NN : Int)] rfl rfl ?d1 ?d2 ?d3 ?d4 ?d5 ?_)
          | fail)
        case d1 =>
          intro j u hj
          match j, hj with
          | 0, hj => simp at hj; subst hj; simp [Addr.add]
        case d2 => intro u hu; simp at hu; subst hu; rfl
        case d3 => unfold maxLen; omega
        case d4 => omega
        case d5 => have := M1.out.2.size; simp; omega
        intro v2 w2 hown2 hgrow2 hnil2
        have O2 := (show Hid _ from And.intro hown2 (And.intro hgrow2 hnil2))
        clear hown2 hgrow2 hnil2 M1
        go_wp2_with fail
        go_roundw
        case rel =>
          refine ⟨j + 1, ?_, ?_, ?_⟩
          · rw [cutA_succ, ← HA.out, ← HNN.out]; go_num
          · intro i hi
            by_cases e : i = j
            · rw [e, ← HA.out]; exact hlt
            · exact HJ.out i (by omega)
          · have o1 := O1.out.1
            have o2 := O2.out.1
            rw [HA.out] at o1
            rw [HNN.out] at o2
            have h0 : 1 ≤ cutN L v 0 := by
              unfold cutN
              rw [HV.out]
              have h3 := vOf_b len1 z1 0
              have h4 : cutA L (vOf len1 z1) 0 = 0 := rfl
              omega
            exact HM.out.step rfl h0 o1 O1.out.2.1 O1.out.2.2 o2 O2.out.2.1 O2.out.2.2
        case measure => simp [intOf]; omega
    · have hAL : cutA L v j = L := by have := cutA_le L v j; omega
      have HAL := (show Hid _ from hAL)
      have hP0 : 0 < j := by
        rcases Nat.eq_zero_or_pos j with e | e
        · subst e
          have : cutA L v 0 = 0 := rfl
          omega
        · exact e
      have hjL : j ≤ 600 := by have h1 := cutA_ge L v (fun i => by rw [HV.out]; have := vOf_b len1 z1 i; omega) j HJ.out; omega
      obtain ⟨g1, ca, rfl, b1, R1⟩ := row_of HM.out.a hP0
      obtain ⟨g2, cn, rfl, b2, R2⟩ := row_of HM.out.n hP0
      have HB1 := (show Hid _ from HM.out.bel)
      have HR1 := (show Hid _ from And.intro b1 R1)
      have HR2 := (show Hid _ from And.intro b2 R2)
      obtain ⟨P, hPj⟩ : ∃ P, P = j := ⟨_, rfl⟩
      rw [← hPj] at hP0 hjL HR1 HR2 HJ HAL ⊢
      clear HM b1 R1 b2 R2 hi hz0 hz1 hz2 hlt hAL
      rw [hPj]
      rw [hPj] at HR1 HR2 hP0 hjL HJ HAL
      obtain rfl := hPj
      rw [HAL.out]
      obtain ⟨wo, rfl⟩ : ∃ wo, wo = wr := ⟨_, rfl⟩
      by_cases h2 : P < 2
      · go_wp2_with fail
        refine (awake_any _).mono ?_
        rintro r w1 ⟨rfl, hb⟩
        have HB2 : Hid (Below w.heap.size w w1) := HB1.out.trans (hb.mono HB1.out.size)
        clear hb HB1
        go_wp2
        go_ret
        exact ⟨rfl, HB2.out⟩
      · have hn := new_any 1 9 wo
        go_wp2_with fail
        refine hn.mono ?_
        rintro r w1 ⟨rfl, hb1, t1⟩
        have HN1 : Hid (wo.heap.size + 1 < w1.heap.size) := t1.lt _ t1.ft
        obtain ⟨tb, htb⟩ : ∃ tb, tb = wo.heap.size + 1 := ⟨_, rfl⟩
        rw [← htb] at t1
        rw [← htb]
        have HTB := (show Hid _ from htb)
        have HT1 := (show Hid _ from t1)
        have HB2 := (show Hid _ from hb1)
        clear hn hb1 t1 htb
        obtain ⟨i0, hi, hz0, hz1, hz2⟩ := info_parts infoB
        go_wp2_with fail
        go_loopw [12, 13] (fun vw t wq => ∃ j : Nat, j ≤ P ∧ t = .int .i64 (j : Int) ∧ Hid (wq.ownsRow w1.heap.size 4 1 vw j ((List.range j).map fun _ => Value.bool false)) ∧ Hid (Below w1.heap.size w1 wq)) (fun _ t _ => P - (intOf t).toNat)
        case atStart => exact ⟨0, by omega, rfl, show Hid _ from World.ownsRow_nil _ _ _ _, show Hid _ from Below.refl _ _⟩
        case round =>
          obtain ⟨j, hj, rfl, HO, HQ⟩ := hrel
          by_cases hjP : j < P
          · go_wp2_with (first
              | (at_builtin; refine wpList_append_own _ rfl (.tmp 77) (.tmp 78) 44 rfl w1.heap.size 4 i0 (.bool false) 1 1 Try.underlying44 hi hz0 hz1 hz2 rfl (by decide) _ _ _ rfl (HO.out.alloc _) ⟨wr.heap.size, 0, none⟩ 1 1 [.bool false] rfl rfl ?c1 ?c2 ?c3 ?c4 ?c5 ?_)
              | fail)
            case c1 =>
              intro j u hj
              match j, hj with
              | 0, hj => simp at hj; subst hj; simp [Addr.add]
            case c2 => intro u hu; simp at hu; subst hu; rfl
            case c3 => unfold maxLen; omega
            case c4 => omega
            case c5 => have := HQ.out.size; simp; omega
            intro v' w2 hown' hgrow _
            have HO' : Hid (w2.ownsRow w1.heap.size 4 1 v' (j + 1) ((List.range (j + 1)).map fun _ => Value.bool false)) := by
              show World.ownsRow _ _ _ _ _ _ _
              rw [List.range_succ, List.map_append]
              exact hown'
            have HQ' : Hid (Below w1.heap.size w1 w2) := (HQ.out.alloc HQ.out.size _).grown hgrow (by have := HQ.out.size; simp; omega) (fun g hg => (World.ownsRow.lt HO.out g hg).1)
            clear hown' hgrow
            go_wp2
            go_roundw
            case rel => exact ⟨j + 1, by omega, by go_num, HO', HQ'⟩
            case measure => simp [intOf]; omega
          · obtain rfl : j = P := by omega
            obtain ⟨g3, c3, rfl, b3, R3⟩ := row_of HO.out hP0
            obtain ⟨wq, rfl⟩ : ∃ wq, wq = wr := ⟨_, rfl⟩
            have hs1 := HN1.out
            have hs2 := HB1.out.size
            have hl1 := HR1.out.2.lt
            have hl2 := HR2.out.2.lt
            have HBq : Below wo.heap.size wo wq := HB2.out.trans (HQ.out.mono HB2.out.size)
            have HRn : Hid (Rnd w wq tb wo.heap.size g1 g2 g3 j (cutA L v) (cutN L v) (fun _ => false) Tbl.none (fun b => b = wo.heap.size ∨ b = tb) (fun _ => none)) := by
              refine ⟨HT1.out.below HQ.out, HR1.out.2.below HBq hl1, HR2.out.2.below HBq hl2, R3, ?_, ?_, ?_, ?_, ?_, ?_, ?_, HB1.out.trans (HBq.mono hs2)⟩
              · have := HTB.out; show ¬ (g1 = wo.heap.size ∨ g1 = tb); omega
              · have := HTB.out; show ¬ (g2 = wo.heap.size ∨ g2 = tb); omega
              · have := HTB.out; show ¬ (g3 = wo.heap.size ∨ g3 = tb); omega
              · omega
              · omega
              · omega
              · intro b hb; have := HTB.out; rcases hb with hb | hb <;> omega
            have HTT : Hid (TT L j v s (fun _ => false) Tbl.none) := TT.zero L j v s hP0
            obtain ⟨mb, hmb⟩ : ∃ mb, mb = wo.heap.size := ⟨_, rfl⟩
            rw [← hmb] at HRn
            clear HO HQ HBq R3 b3 hs1 hs2 hl1 hl2 HN1 HT1 HB2 HB1 HR1 HR2 hi hz0 hz1 hz2 hmb HTB hjP hj
            obtain ⟨I0, hI0⟩ : ∃ I0, I0 = min len2 50 := ⟨_, rfl⟩
            have hI50 : I0 ≤ 50 := by omega
            have HI0 := (show Hid _ from hI0)
            clear hI0
            go_wp2_with fail
            go_loopw [14, 15] (fun l t wr => ∃ (i : Nat) (wt : Nat → Bool) (T : Tbl) (F : Nat → Prop) (blk : Lit → Option Nat), t = .int .i64 (i : Int) ∧ l = .int .i64 ((lefts j wt : Nat) : Int) ∧ i ≤ I0 + j ∧ Hid (∀ q, I0 ≤ q → q < i → wt (q % j) = true) ∧ Hid (Rnd w wr tb mb g1 g2 g3 j (cutA L v) (cutN L v) wt T F blk) ∧ Hid (TT L j v s wt T)) (fun _ t _ => I0 + j - (intOf t).toNat)
            case atStart => exact ⟨0, fun _ => false, Tbl.none, _, _, rfl, by rw [lefts_all], by omega, show Hid _ from fun q _ hq => absurd hq (Nat.not_lt_zero _), HRn, HTT⟩
            case round =>
              obtain ⟨i, wt, T, F, blk, rfl, rfl, hi, HI, HR, HT⟩ := hrel
              clear HRn HTT
              have hlj := lefts_le j wt
              by_cases hz : lefts j wt = 0
              · obtain ⟨n0, hb0⟩ := HT.out.bytes hz
                have hl := len_any HR.out.tab
                have hbt := bytes_any HR.out.tab
                rw [n0] at hl
                rw [hz]
                have HB0 := (show Hid _ from hb0)
                clear n0 hb0 hlj
                go_wp2_with fail
                refine hl.mono ?_
                rintro r w2 ⟨rfl, rfl⟩
                clear hl
                go_wp2_with fail
                refine hbt.mono ?_
                rintro r w2 ⟨nb, rfl, hsum, hbb⟩
                obtain rfl : nb = 0 := HB0.out nb hsum
                have HBW : Hid (Below w.heap.size w w2) := HR.out.bel.trans (hbb.mono HR.out.bel.size)
                clear hbt hsum hbb
                go_wp2_with fail
                refine (awake_any _).mono ?_
                rintro r w3 ⟨rfl, hbb⟩
                have HBW3 : Hid (Below w.heap.size w w3) := HBW.out.trans (hbb.mono HBW.out.size)
                clear hbb
                go_wp2
                go_ret
                exact ⟨rfl, HBW3.out⟩
              · have hil : i < I0 + j := by
                  rcases Nat.lt_or_ge i (I0 + j) with h | h
                  · exact h
                  · exact absurd (around hP0 HI.out h) hz
                have hl0 : 0 < lefts j wt := Nat.pos_of_ne_zero hz
                have htm : Int.tmod (i : Int) (j : Int) = ((i % j : Nat) : Int) := by rw [Int.tmod_eq_emod_of_nonneg (by omega)]; rfl
                obtain ⟨LL, hLL⟩ : ∃ LL, LL = lefts j wt := ⟨_, rfl⟩
                rw [← hLL] at hl0 hlj ⊢
                have HLL := (show Hid _ from hLL)
                have HZ := (show Hid _ from hz)
                clear hLL hz
                by_cases ho1 : i < len2
                focus
                  by_cases ho2 : i < 50
                  focus
                    obtain ⟨x, rfl, hcx⟩ := C2.out i ho1
                    have hcx' : wr.cell? (x.add i) = some (.int .i64 (z2.getD i 0)) := (HR.out.bel.cell (World.block_lt_of_cell? w _ hcx)).trans hcx
                    have hpl := fun w' => place_any (z2.getD i 0) (j : Int) w' (by omega) (by omega)
                    obtain ⟨K, hm⟩ : ∃ K : Nat, z2.getD i 0 % (j : Int) = (K : Int) := ⟨(z2.getD i 0 % (j : Int)).toNat, by have := Int.emod_nonneg (z2.getD i 0) (show (j : Int) ≠ 0 from by omega); omega⟩
                    have hK : K < j := by have := Int.emod_lt_of_pos (z2.getD i 0) (show 0 < (j : Int) from by omega); omega
                    have HInv : Hid (∀ q, I0 ≤ q → q < i + 1 → setW wt K (q % j) = true) := fun q h1 h2 => by have := HI0.out; omega
                    rw [hm] at hpl
                    obtain ⟨z, hzz⟩ : ∃ z, z = z2.getD i 0 := ⟨_, rfl⟩
                    rw [← hzz] at hpl hcx'
                    clear hcx hm hzz
                    go_upto_region 29 with (refine (hpl _).mono ?_; rintro r w' ⟨rfl, rfl⟩)
                    clear hpl hcx'
                  rotate_left 1
                  focus
                    obtain ⟨K, hKi⟩ : ∃ K, K = i % j := ⟨_, rfl⟩
                    rw [← hKi] at htm
                    have hK : K < j := by rw [hKi]; exact Nat.mod_lt _ hP0
                    have HInv : Hid (∀ q, I0 ≤ q → q < i + 1 → setW wt K (q % j) = true) := fun q h1 h2 => by
                      unfold setW
                      by_cases e : q % j = K
                      · rw [if_pos e]
                      · rw [if_neg e]
                        exact HI.out q h1 (by
                          rcases Nat.lt_or_ge q i with g | g
                          · exact g
                          · obtain rfl : q = i := by omega
                            exact absurd hKi.symm e)
                    clear hKi
                    go_upto_region 29 with fail
                  rotate_left 1
                rotate_left 2
                focus
                  obtain ⟨K, hKi⟩ : ∃ K, K = i % j := ⟨_, rfl⟩
                  rw [← hKi] at htm
                  have hK : K < j := by rw [hKi]; exact Nat.mod_lt _ hP0
                  have HInv : Hid (∀ q, I0 ≤ q → q < i + 1 → setW wt K (q % j) = true) := fun q h1 h2 => by
                    unfold setW
                    by_cases e : q % j = K
                    · rw [if_pos e]
                    · rw [if_neg e]
                      exact HI.out q h1 (by
                        rcases Nat.lt_or_ge q i with g | g
                        · exact g
                        · obtain rfl : q = i := by omega
                          exact absurd hKi.symm e)
                  clear hKi
                  go_upto_region 29 with fail
                all_goals
                  clear htm
                  have q1 := HR.out.r1.c K hK
                  have q2 := HR.out.r2.c K hK
                  have z1' := HR.out.r1.lt
                  have z2' := HR.out.r2.lt
                  have hnk : 1 ≤ cutN L v K := by
                    unfold cutN
                    have h3 := HJ.out K hK
                    have h4 := vOf_b len1 z1 K
                    rw [← HV.out] at h4
                    omega
                  have hak : cutA L v K + cutN L v K ≤ L := cutA_le L v (K + 1)
                  obtain ⟨AK, hAK⟩ : ∃ AK, AK = cutA L v K := ⟨_, rfl⟩
                  obtain ⟨NK, hNK⟩ : ∃ NK, NK = cutN L v K := ⟨_, rfl⟩
                  rw [← hAK] at q1 hak
                  rw [← hNK] at q2 hak hnk
                  have HAK := (show Hid _ from And.intro hAK hNK)
                  clear hAK hNK
                  have hcl := Cls.cell (w := wr)
                  obtain ⟨sub, hsub⟩ : ∃ sub, s.extract AK (AK + NK) = sub := ⟨_, rfl⟩
                  refine wp_region_calm (by kernel_rfl) (by kernel_rfl) (fun hne => ?_)
                  repeat (go_big_quiet_step (fail))
                  refine wpQuiet_nil ?_
                  rintro _ ⟨x', rfl⟩
                  rw [hsub]
                  have HR2 := (show Hid _ from HR.out.below x'.bel)
                  generalize x'.val = wy at *
                  have HSUB : Hid (sub.size = NK ∧ ∀ q, q < NK → sub.data.toList.getD q 0 = s.data.toList.getD (AK + q) 0) := by
                    rw [← hsub]
                    exact sub_facts s AK NK (by omega)
                  have q3 := HR2.out.r3.c K hK
                  have f3 := HR2.out.r3.f K
                  have z3' := HR2.out.r3.lt
                  obtain ⟨wk, hwk⟩ : ∃ wk, wk = wt K := ⟨_, rfl⟩
                  rw [← hwk] at q3
                  have HWK := (show Hid _ from hwk)
                  clear hne hcl q1 q2 z1' z2' HR hsub hwk
                  cases wk
                  focus
                    obtain ⟨L2, hL2⟩ : ∃ L2, L2 = lefts j (setW wt K) := ⟨_, rfl⟩
                    have hL2' : (LL : Int) - 1 = (L2 : Int) := by have := lefts_set hK HWK.out.symm; rw [← hL2, ← HLL.out] at this; omega
                    have HL2 := (show Hid _ from hL2)
                    clear hL2
                    go_upto_region 34 with fail
                    obtain ⟨body, hbody⟩ : ∃ body, body = sub := ⟨_, rfl⟩
                    have HBY : Hid (body.size = NK ∧ (wt K = false → ∀ q, q < NK → body.data.toList.getD q 0 = s.data.toList.getD (AK + q) 0)) := by
                      rw [hbody]; exact ⟨HSUB.out.1, fun _ => HSUB.out.2⟩
                    rw [← hbody]
                    try rw [hL2']
                    obtain ⟨W4, hW4⟩ : ∃ W4, W4 = wy.setCell ⟨g3, K, none⟩ (.bool true) := ⟨_, rfl⟩
                    have HR4 : Hid (Rnd w W4 tb mb g1 g2 g3 j (cutA L v) (cutN L v) (setW wt K) T F blk) := by rw [hW4]; exact HR2.out.set K hK
                    rw [← hW4]
                    clear hW4 hbody HR2 q3 f3 z3' HSUB hL2'
                  rotate_left 1
                  focus
                    obtain ⟨L2, hL2⟩ : ∃ L2, L2 = lefts j (setW wt K) := ⟨_, rfl⟩
                    have hL2' : LL = L2 := by rw [HLL.out, hL2, lefts_same (P := j) HWK.out.symm]
                    have HL2 := (show Hid _ from hL2)
                    subst hL2'
                    have hmk := fun u => make_z NK (NK : Int) rfl (by omega) u
                    have hcv := fun u => conv_zs u NK
                    obtain ⟨body, hbody⟩ : ∃ body, body = zs NK := ⟨_, rfl⟩
                    have HBY : Hid (body.size = NK ∧ (wt K = false → ∀ q, q < NK → body.data.toList.getD q 0 = s.data.toList.getD (AK + q) 0)) := by
                      rw [hbody]; exact ⟨zs_size NK, fun x => by rw [← HWK.out] at x; cases x⟩
                    simp only [← hbody] at hcv
                    clear hbody hL2
                    have q2 := HR2.out.r2.c K hK
                    have z2' := HR2.out.r2.lt
                    rw [← HAK.out.2] at q2
                    go_upto_region 33 with fail
                    obtain ⟨W3, hW3⟩ : ∃ W3, W3 = wy.alloc (.cells (madeCells #[.int .u8 0] NK) 5) := ⟨_, rfl⟩
                    have HR3 : Hid (Rnd w W3 tb mb g1 g2 g3 j (cutA L v) (cutN L v) wt T F blk) := by rw [hW3]; exact HR2.out.below (below1 _ _)
                    rw [← hW3]
                    clear hW3 hmk hcv q2 z2' q3 f3 z3' HR2 HSUB
                    have q3 := HR3.out.r3.c K hK
                    have f3 := HR3.out.r3.f K
                    have z3' := HR3.out.r3.lt
                    go_upto_region 34 with fail
                    obtain ⟨W4, hW4⟩ : ∃ W4, W4 = W3.setCell ⟨g3, K, none⟩ (.bool true) := ⟨_, rfl⟩
                    have HR4 : Hid (Rnd w W4 tb mb g1 g2 g3 j (cutA L v) (cutN L v) (setW wt K) T F blk) := by rw [hW4]; exact HR3.out.set K hK
                    rw [← hW4]
                    obtain ⟨L2, rfl⟩ : ∃ L2, L2 = LL := ⟨_, rfl⟩
                    clear hW4 HR3 q3 f3 z3'
                  rotate_left 1
                  all_goals
                    have q1 := HR4.out.r1.c K hK
                    have z1' := HR4.out.r1.lt
                    rw [← HAK.out.1] at q1
                    obtain ⟨mo, hmo⟩ : ∃ mo, mo = decide (K + 1 < j) := ⟨_, rfl⟩
                    have hmo' : decide ((K : Int) + 1 < (j : Int)) = mo := by rw [hmo, decide_eq_decide]; omega
                    obtain ⟨a, ha, hae, had, hat, hat2, HTT⟩ := HT.out.step hL ⟨by omega, h600⟩ (fun i => by rw [HV.out]; have := vOf_b len1 z1 i; omega) HAL.out HJ.out (by omega) K hK HZ.out (by rw [← HAK.out.2]; exact HBY.out.1) (by rw [← HAK.out.1, ← HAK.out.2]; exact HBY.out.2) mo hmo
                    rw [← HAK.out.1] at ha
                    have hadd := add_any HR4.out.tab (ipN 7 (AK : Int) mo) (ipN_key 7 _ _ (by omega)) body (by rw [HBY.out.1]; omega) (by show (AK : Int) ≤ _; omega)
                    rw [ha, hae, had] at hadd
                    have HA := (show Hid _ from And.intro hat (And.intro hat2 HTT))
                    clear ha hae had hat hat2 HTT hmo HT HBY
                    go_wp2_with fail
                    refine hadd.mono ?_
                    rintro r w5 ⟨rfl, hK5⟩
                    obtain ⟨F5, blk5, HR5⟩ := HR4.out.add hK5
                    have HR5 := (show Hid _ from HR5)
                    clear hadd hK5 HR4 q1 z1' hmo'
                    by_cases hz2 : L2 = 0
                    · have hzz : lefts j (setW wt K) = 0 := by rw [← HL2.out]; exact hz2
                      rw [HA.out.1 hzz, hzz, hz2]
                      have hd0 : (decide ((0 : Nat) = 0)) = true := rfl
                      go_wp2_with fail
                      go_roundw
                      case rel => exact ⟨i + 1, setW wt K, a.T, F5, blk5, by go_num, (by rw [hzz]; rfl), by omega, HInv, HR5, HA.out.2.2⟩
                      case measure => simp [intOf]; omega
                    · have hzz : ¬ lefts j (setW wt K) = 0 := by rw [← HL2.out]; exact hz2
                      have hd0 : decide (lefts j (setW wt K) = 0) = false := by simp [hzz]
                      rw [HA.out.2.1 hzz, hd0]
                      have HD0 := (show Hid _ from hzz)
                      clear hd0 hzz
                      have hp2 : 0 < L2 := Nat.pos_of_ne_zero hz2
                      go_wp2_with fail
                      go_roundw
                      case rel => exact ⟨i + 1, setW wt K, a.T, F5, blk5, by go_num, by rw [← HL2.out], by omega, HInv, HR5, HA.out.2.2⟩
                      case measure => simp [intOf]; omega
set_option maxHeartbeats 1000000 in
theorem walk_long (s : ByteArray) (a1 : Option Addr) (len1 cap1 : Nat) (a2 : Option Addr) (len2 cap2 : Nat) (w : World) (hs : s.size ≤ 9223372036854775807) (h : s.size < 9 ∨ 600 < s.size) :
    Calls Try.prog 4 #[.string s, .slice a1 len1 cap1, .slice a2 len2 cap2] w fun e w' => e = .returned (.bool true) ∧ Below w.heap.size w w' := by
  go_enter Try.func4, Try.ntmps4
  go_wp2_with fail
  all_goals
    refine (awake_any _).mono ?_
    rintro r w1 ⟨rfl, hb⟩
    go_wp2_with fail
    go_ret
    exact ⟨rfl, hb⟩
theorem walk (s : ByteArray) (w0 : s.size ≤ maxLen) (a1 : Option Addr) (len1 cap1 : Nat) (z1 : List Int) (a2 : Option Addr) (len2 cap2 : Nat) (z2 : List Int) (w : World) (r1 : IsRow .i64 w a1 len1 cap1 z1) (r2 : IsRow .i64 w a2 len2 cap2 z2) :
    Calls Try.prog 4 #[.string s, .slice a1 len1 cap1, .slice a2 len2 cap2] w fun e w' => e = .returned (.bool true) ∧ Below w.heap.size w w' := by
  unfold maxLen at w0
  by_cases h : 9 ≤ s.size ∧ s.size ≤ 600
  · exact walk_core s a1 len1 cap1 z1 a2 len2 cap2 z2 w s.size rfl h.1 h.2 r1 r2
  · exact walk_long s a1 len1 cap1 a2 len2 cap2 w w0 (by omega)
/-! ### THE ROW's STEP -/
set_option maxRecDepth 100000 in
theorem lifted (os : Os) (started : os.Started) (H : Type) (enc : TypeId × Value → H) :
    ReturnsInHanded {} Try.checked os 4 .any (Rows.defragOrdersSpec.pre6 enc Try.prog Try.f4 Rows.defragOrdersRow.domain false) (Rows.defragOrdersSpec.post enc Try.prog Try.f4 false true false false) := by
  refine returnsInHanded_of_change (C := Try.checked) own started (by kernel_rfl) Try.func4
    (ChangeSpec.witness6 (enc := enc) (C := Try.checked) false ⟨#[], #[.string ByteArray.empty, .slice none 0 0, .slice none 0 0], []⟩ 8 (by kernel_rfl) (by kernel_rfl) (by kernel_rfl) (by kernel_rfl)) ?_
  intro W base args ds gs before hval0 hW hcnd _
  have hval : ∀ (j : Nat) t v, Try.f4.params[j]? = some t → args[j]? = some v → Value.okWide Try.prog W .any base t v := hval0
  have hW' := hW
  obtain ⟨p, q, hA0, hV, rfl, hfz, hnd⟩ := hW
  have hA : DataW.TrodAll enc Try.prog W 0 (fun _ => true) true Try.f4.params.toList args.toList ds p := hA0
  have hB := fun (W' : World) (bel : Below W.heap.size W W') => below_trodAll_of laidOut bel _ (by kernel_rfl) hA
  rw [Try.params4] at hA hval
  obtain ⟨v0, vs0, d0, ds0, p0, q0, hargs, rfl, rfl, h0, r0⟩ := trodAll_cons hA
  obtain ⟨v1, vs1, d1, ds1, p1, q1, rfl, rfl, rfl, h1, r1⟩ := trodAll_cons r0
  obtain ⟨v2, vs2, d2, ds2, p2, q2, rfl, rfl, rfl, h2, r2⟩ := trodAll_cons r1
  obtain ⟨rfl, rfl, rfl⟩ := trodAll_nil r2
  obtain rfl : args = #[v0, v1, v2] := by cases args; simp_all
  obtain ⟨rfl, rfl⟩ := trodVars_none hV
  obtain ⟨a0, rfl, rfl, rfl, w0⟩ := open_string Try.underlying9 (hval 0 9 v0 rfl rfl) h0
  obtain ⟨a1, len1, cap1, rfl⟩ := okWide_slice Try.underlying43 (hval 1 43 v1 rfl rfl)
  obtain ⟨z1, w1⟩ : ∃ zs, IsRow .i64 W a1 len1 cap1 zs := by
    obtain ⟨fuel, hf⟩ := h1
    rcases open_ints Try.underlying43 Try.underlying3 (by kernel_rfl) hf with ⟨hcs, _⟩ | ⟨x, l, c, zs, hcs, _, hl, hm, hz, _, hcell, hwz⟩
    · simp [Value.cells] at hcs
      obtain ⟨rfl, rfl, rfl⟩ := hcs
      exact ⟨[], .inl ⟨rfl, rfl, rfl, rfl⟩⟩
    · simp [Value.cells] at hcs
      obtain ⟨rfl, rfl, rfl⟩ := hcs
      exact ⟨zs, .inr ⟨_, rfl, hl, hm, by simpa using hz, hcell, hwz⟩⟩
  obtain ⟨a2, len2, cap2, rfl⟩ := okWide_slice Try.underlying43 (hval 2 43 v2 rfl rfl)
  obtain ⟨z2, w2⟩ : ∃ zs, IsRow .i64 W a2 len2 cap2 zs := by
    obtain ⟨fuel, hf⟩ := h2
    rcases open_ints Try.underlying43 Try.underlying3 (by kernel_rfl) hf with ⟨hcs, _⟩ | ⟨x, l, c, zs, hcs, _, hl, hm, hz, _, hcell, hwz⟩
    · simp [Value.cells] at hcs
      obtain ⟨rfl, rfl, rfl⟩ := hcs
      exact ⟨[], .inl ⟨rfl, rfl, rfl, rfl⟩⟩
    · simp [Value.cells] at hcs
      obtain ⟨rfl, rfl, rfl⟩ := hcs
      exact ⟨zs, .inr ⟨_, rfl, hl, hm, by simpa using hz, hcell, hwz⟩⟩
  clear hA0 hval0
  refine (walk a0 w0 a1 len1 cap1 z1 a2 len2 cap2 z2 W w1 w2).mono fun e W' ⟨he, bel⟩ => ?_
  subst he
  exact ⟨_, rfl, _, _, _, [], _, [], hW', trodAll_mk1 (shut_bool Try.underlying4 _), hB W' bel, rfl, bel.frame _, fun h => by cases h⟩

theorem over : Rows.defragOrdersRow.holds Try.pinned (OpenSpec.ofChange Rows.defragOrdersSpec) :=
  OpenClaim.holds_of_wide 4 Try.f4 rfl rfl rfl rfl rfl rfl rfl ⟨rfl, rfl, rfl, rfl, rfl⟩ rfl rfl rfl rfl rfl (by kernel_rfl) Try.func4 (by kernel_rfl)
    (of_decide_eq_true (by kernel_rfl)) (by unfold Func.isWrapper; first | (rw [if_pos (by decide +kernel)]; kernel_rfl) | (rw [if_neg (by decide +kernel)]; exact ⟨rfl, rfl⟩))
    (fun os started H enc _ => lifted os started H enc)

/-- THE STATEMENT -/
theorem proved : Rows.DefragOrdersSaid := over
#print axioms proved
end Go.Proofs.Ytkfgapljphhmcaa.defragOrders
