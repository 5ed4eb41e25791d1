/- Layer 7's own answer: contract of Add. -/
import Derived.Test.YtkfgapljphhmcaaRfPl2
import Derived.Deep.CutRange
import Derived.Deep.DeepCutAuto
namespace Go.Proofs.Ytkfgapljphhmcaa
open Go.RowKit Go.Maps
set_option linter.unusedVariables false
set_option maxRecDepth 20000
theorem idx_some {L : List (RE × Value)} {i : Ip} {k : Nat} {x : RE × Value} (hx : L[k]? = some x) (hn : x.1.named i = true) (hj : ∀ j y, j < k → L[j]? = some y → y.1.named i = false) : idxR (L.map Prod.fst) i = some k := by
  unfold idxR
  rw [List.findIdx?_eq_some_iff_getElem]
  have hk := (List.getElem?_eq_some_iff.1 hx).1
  have ex : L[k] = x := (List.getElem?_eq_some_iff.1 hx).2
  refine ⟨by simpa using hk, by simp [ex, hn], fun j hjk => ?_⟩
  have := hj j L[j] hjk (List.getElem?_eq_getElem (by omega))
  simp [this]
theorem idx_no {L : List (RE × Value)} {i : Ip} (h : ∀ y ∈ L, y.1.named i = false) : idxR (L.map Prod.fst) i = none := by
  unfold idxR
  rw [List.findIdx?_eq_none_iff]
  intro e he
  obtain ⟨y, hy, rfl⟩ := List.mem_map.1 he
  exact h y hy
theorem map_erase (L : List (RE × Value)) (k : Nat) : (L.eraseIdx k).map Prod.fst = (L.map Prod.fst).eraseIdx k := by
  rw [List.eraseIdx_eq_take_drop_succ, List.eraseIdx_eq_take_drop_succ, List.map_append, List.map_take, List.map_drop]
theorem goD_slice {P : Program} {ops : Array Oper} {D : World → Prop} {T : Act → World → Prop} {l : List Oper} {o : Oper} {a : Act} {w : World} (hgd : o.guard = none) (t : TypeId) (x : Operand) (ho : o.op = .buildSlice t 1 #[(0, x)]) (u v : Value) (w' : World) (hx : a.eval x = u)
    (hr : (Instr.buildSlice t 1 #[(0, u)]).run P w = .ok v w') (h : D w' ∧ goD P ops D T l (a.put o.dst v) w') : goD P ops D T (o :: l) a w := by
  refine goD_lit hgd v w' ?_ h
  unfold execOp
  simp only [ho, List.map_toArray, List.map_cons, List.map_nil, hx, Sem.run_bind, hr, Result.andThen_ok, Sem.run_pure]
theorem alloc_news (w : World) (l : List Value) (t : TypeId) : ∀ j u, l[j]? = some u → (w.alloc (.cells l.toArray t)).cell? ((⟨w.heap.size, 0, none⟩ : Addr).add j) = some u := by
  intro j u hj
  have e : (⟨w.heap.size, 0, none⟩ : Addr).add j = ⟨w.heap.size, j, none⟩ := by
    rcases Nat.eq_zero_or_pos j with e | e
    · subst e; simp [Addr.add]
    · simp [Addr.add, Nat.ne_of_gt e]
  rw [e, World.cell?_alloc_new]
  simpa using hj
/-- the world in which an entry is put -/
structure Rd (x : World) (rt bx : Nat) (vL : Value) (now : Int) (i : Ip) : Prop where
  c2 : x.cell? ⟨rt, 2, none⟩ = some (.int .i64 now)
  c3 : x.cell? ⟨rt, 3, none⟩ = some vL
  q : ∀ o, x.cell? ⟨bx, o, none⟩ = (ipV i)[o]?
  f : ∀ o, x.frozen? ⟨rt, o, none⟩ = false
  lr : rt < x.heap.size
  lb : bx < x.heap.size
theorem Rd.kept {w x : World} {F F' : Nat → Prop} {rt bx : Nat} {vL : Value} {now : Int} {i : Ip} (h : Rd w rt bx vL now i) (k : Kept F w F' x) (h1 : ¬ F rt) (h2 : ¬ F bx) : Rd x rt bx vL now i :=
  ⟨by rw [k.cell rt 2 h.lr h1]; exact h.c2, by rw [k.cell rt 3 h.lr h1]; exact h.c3, fun o => by rw [k.cell bx o h.lb h2]; exact h.q o, fun o => by rw [World.frozen?_of_block (a := ⟨rt, o, none⟩) (k.block rt h.lr h1)]; exact h.f o, Nat.lt_of_lt_of_le h.lr k.size, Nat.lt_of_lt_of_le h.lb k.size⟩
theorem Rd.drew {w : World} {rt bx : Nat} {vL : Value} {now : Int} {i : Ip} (h : Rd w rt bx vL now i) : Rd w.drew rt bx vL now i := ⟨h.c2, h.c3, h.q, h.f, h.lr, h.lb⟩
/-- an entry is at hand -/
def Sel (w1 : World) (G : Nat → Prop) (rt : Nat) (most ticks now : Int) (i : Ip) (s : ByteArray) (A : AnsR) (k : Nat) (wx : World) : Prop := ∃ L1 G1 vL1, k < L1.length ∧ (∀ x, L1[k]? = some x → A = putR (L1.map Prod.fst) k (x.1.taken i s)) ∧ (∀ y ∈ L1, GoodE y.1) ∧ Kept G w1 G1 wx ∧ Ref wx G1 rt vL1 most ticks now L1
theorem set_same {L : List (RE × Value)} {k : Nat} {x : RE × Value} (hx : L[k]? = some x) : L.set k x = L := by
  refine List.ext_getElem? (fun j => ?_)
  by_cases e : k = j
  · subst e
    rw [List.getElem?_set_self (List.getElem?_eq_some_iff.1 hx).1, hx]
  · rw [List.getElem?_set_ne e]
/-- the world in which a part is put -/
structure Rd2 (x : World) (g q bx : Nat) (v : Value) (O : Nat) : Prop where
  c : x.cell? ⟨g, q + 4, none⟩ = some v
  o : x.cell? ⟨bx, 4, none⟩ = some (.int .i64 (O : Int))
  f : x.frozen? ⟨g, q + 4, none⟩ = false
  lg : g < x.heap.size
  lb : bx < x.heap.size
theorem Rd2.kept {w x : World} {F F' : Nat → Prop} {g q bx : Nat} {v : Value} {O : Nat} (h : Rd2 w g q bx v O) (k : Kept F w F' x) (h1 : ¬ F g) (h2 : ¬ F bx) : Rd2 x g q bx v O :=
  ⟨by rw [k.cell g _ h.lg h1]; exact h.c, by rw [k.cell bx _ h.lb h2]; exact h.o, by rw [World.frozen?_of_block (a := ⟨g, q + 4, none⟩) (k.block g h.lg h1)]; exact h.f, Nat.lt_of_lt_of_le h.lg k.size, Nat.lt_of_lt_of_le h.lb k.size⟩
theorem Rd2.drew {w : World} {g q bx : Nat} {v : Value} {O : Nat} (h : Rd2 w g q bx v O) : Rd2 w.drew g q bx v O := ⟨h.c, h.o, h.f, h.lg, h.lb⟩
theorem slice_g {g g' a b c d : Nat} (h : Value.slice (some ⟨g, 0, none⟩) a b = .slice (some ⟨g', 0, none⟩) c d) : g' = g := by
  injection h with h1 _ _
  injection h1 with h1
  injection h1 with h1
  exact h1.symm
theorem parV_arr (O j : Nat) (b : UInt8) : (parV (O + j, b)).toArray = (#[.int .i64 ((O : Int) + (j : Int)), bv b] : Array Value) := by
  simp [parV]
/-- a new row of those that stay, while it is made -/
structure MRow (w0 wx : World) (vm : Value) (F : List (Nat × UInt8)) : Prop where
  own : wx.ownsRow w0.heap.size 73 2 vm F.length (rowP F)
  bel : Below w0.heap.size w0 wx
theorem MRow.below {w0 wx wy : World} {vm : Value} {F : List (Nat × UInt8)} (h : MRow w0 wx vm F) (hb : Below wx.heap.size wx wy) : MRow w0 wy vm F :=
  ⟨ownsRow_block h.own (fun b e => hb.block b (h.own.lt b e).2), h.bel.trans (hb.mono h.bel.size)⟩
theorem keep_take (al : Int) (ps : List (Nat × UInt8)) (j : Nat) (p : Nat × UInt8) (h : ps[j]? = some p) : (ps.take (j + 1)).filter (keepP al) = (ps.take j).filter (keepP al) ++ (if keepP al p then [p] else []) := by
  rw [List.take_add_one, h, List.filter_append]
  simp only [Option.toList_some, List.filter_cons, List.filter_nil]
theorem wholeR_any {w : World} {g q : Nat} {e : RE} {v : Value} (hg : g < w.heap.size) (hc : w.cell? ⟨g, q + 4, none⟩ = some v) (hc5 : w.cell? ⟨g, q + 5, none⟩ = some (.int .i64 e.all)) (hp : w.ownsRow 0 73 2 v e.ps.length (rowP e.ps)) (hn : e.ps.length ≤ 2000) (hge : GoodE e) :
    Calls Try.prog 29 #[.pointer (some ⟨g, q, none⟩)] w fun r w' => (∃ T, r = .returned (.tuple #[.string T, .bool e.isAll]) ∧ (e.isAll = true → T = e.text)) ∧ Below w.heap.size w w' := by
  refine (whole_any hg hc hc5 hp hn hge.all hge.lt).mono ?_
  rintro r w' ⟨rfl, hb⟩
  refine ⟨?_, hb⟩
  unfold RE.isAll RE.text
  by_cases h : e.all < 0 ∨ (e.ps.length : Int) < e.all
  · rw [if_pos h]
    have : (decide (0 ≤ e.all) && decide ((e.ps.length : Int) = e.all)) = false := by
      rw [Bool.and_eq_false_iff, decide_eq_false_iff_not, decide_eq_false_iff_not]
      omega
    rw [this]
    exact ⟨_, rfl, fun h => by cases h⟩
  · rw [if_neg h]
    have h0 : decide (0 ≤ e.all) = true := by simp; omega
    rw [h0, Bool.true_and]
    exact ⟨_, rfl, fun _ => rfl⟩
theorem rowP_snoc (ps : List (Nat × UInt8)) (p : Nat × UInt8) : rowP (ps ++ [p]) = rowP ps ++ parV p := by simp [List.flatMap_append]
/-- the entry at hand has turned to e -/
def Mid (w1 : World) (G : Nat → Prop) (rt g n cap : Nat) (most ticks now : Int) (L1 : List (RE × Value)) (k : Nat) (e : RE) (wx : World) : Prop := ∃ G2 v2, Kept G w1 G2 wx ∧ Ref wx G2 rt (.slice (some ⟨g, 0, none⟩) n cap) most ticks now (L1.set k (e, v2))
theorem map_fst_get {L : List (RE × Value)} {k : Nat} {x : RE × Value} (hx : L[k]? = some x) : (L.map Prod.fst)[k]? = some x.1 := by
  rw [List.getElem?_map, hx]; rfl
set_option maxHeartbeats 1000000 in
theorem addR_none {w : World} (rt : Nat) (i : Ip) (s : ByteArray) (hp : partB i = false) :
    Calls Try.prog 16 #[.pointer (some ⟨rt, 0, none⟩), .agg (ipV i), .string s] w fun r w' => r = .returned (.tuple #[.string s, .bool true, .int .i64 0]) ∧ Below w.heap.size w w' := by
  have HB := (show Hid _ from below1 w (.cells (ipV i) 29))
  unfold partB at hp
  obtain ⟨m, hm⟩ : ∃ m, i.more = m := ⟨_, rfl⟩
  have ho : decide (i.off ≤ 0) = true := by simp at hp ⊢; exact hp.2
  have hmf : m = false := by simp at hp; rw [← hm]; exact hp.1
  subst hmf
  have HM := (show Hid _ from hm)
  unfold ipV at HB ⊢
  rw [hm] at HB ⊢
  clear hm hp
  go_enter Try.func16, Try.ntmps16
  go_wp2_with fail
  exact bodyPost_ret (v := .tuple #[.string s, .bool true, .int .i64 0]) (results_tmp3 Try.results16 _ _ _) rfl ⟨rfl, HB.out⟩
set_option maxHeartbeats 4000000 in
theorem addR_part {w : World} {G : Nat → Prop} {rt : Nat} {vL : Value} {most ticks now : Int} {L : List (RE × Value)} (h : Ref w G rt vL most ticks now L) (hg : ∀ x ∈ L, GoodE x.1) (i : Ip) (s : ByteArray) (hs : s.size ≤ 1000000000) (hio : -9223372036854775808 ≤ i.off ∧ i.off ≤ 9223372036854775807) (hp : partB i = true) (A : AnsR) (hA : addR most now (L.map Prod.fst) i s = A) :
    Calls Try.prog 16 #[.pointer (some ⟨rt, 0, none⟩), .agg (ipV i), .string s] w fun r w' => r = .returned (.tuple #[.string A.text, .bool A.done, .int .i64 A.err]) ∧ ∃ L', L'.map Prod.fst = A.R ∧ RefK G w rt most ticks now L' w' := by
  have hb0 := below1 w (.cells (ipV i) 29)
  obtain ⟨W0, hW0⟩ : ∃ W0, W0 = w.alloc (.cells (ipV i) 29) := ⟨_, rfl⟩
  have hq0 : ∀ o, W0.cell? ⟨w.heap.size, o, none⟩ = (ipV i)[o]? := fun o => by rw [hW0]; exact World.cell?_alloc_new _ _ _ _
  have hz0 : w.heap.size < W0.heap.size := by rw [hW0]; simp
  rw [← hW0] at hb0
  have h0 := h.below hb0
  have hfi := find_any h0 i
  have nB : ¬ G w.heap.size := fun hG => absurd (h.lt _ hG) (Nat.lt_irrefl _)
  obtain ⟨bx, hbx⟩ : ∃ bx, bx = w.heap.size := ⟨_, rfl⟩
  rw [← hbx] at hq0 hz0 nB
  have HBX := (show Hid _ from hbx)
  have HB0 := (show Hid _ from hb0)
  have H0 := (show Hid _ from h0)
  have NB := (show Hid _ from nB)
  have HG := (show Hid _ from hg)
  have HP := (show Hid _ from hp)
  have HA := (show Hid _ from hA)
  clear hb0 h0 h nB hg hp hA
  go_enter Try.func16, Try.ntmps16
  go_upto_region 1 with fail
  rw [← hW0, ← hbx]
  clear hW0 hbx
  go_cut [25] from 18 to 25 (fun c wx => c = .bool false ∧ wx = W0)
  case first =>
    obtain ⟨m, hm⟩ : ∃ m, i.more = m := ⟨_, rfl⟩
    have h2 := hq0 2
    have h4 := hq0 4
    simp only [ipV] at h2 h4
    simp at h2 h4
    rw [hm] at h2
    have hpp := HP.out
    unfold partB at hpp
    rw [hm] at hpp
    clear hq0 hfi hm
    cases m
    · have d : decide (i.off ≤ 0) = false := by simp at hpp ⊢; omega
      clear hpp
      go_wp2_with fail
      go_meet
      exact ⟨rfl, rfl⟩
    · clear hpp
      go_wp2_with fail
      go_meet
      exact ⟨rfl, rfl⟩
  case rest =>
    obtain ⟨rfl, rfl⟩ := hcut
    go_wp2_with fail
    refine hfi.mono ?_
    rintro r w1 ⟨⟨v, rfl, hv⟩, hb1⟩
    have q1 : ∀ o, w1.cell? ⟨bx, o, none⟩ = (ipV i)[o]? := fun o => by rw [hb1.cell (by exact hz0), hq0 o]
    have z1 : bx < w1.heap.size := Nat.lt_of_lt_of_le hz0 hb1.size
    have Q1 : Hid (∀ o, w1.cell? ⟨bx, o, none⟩ = (ipV i)[o]?) := q1
    have H1 := (show Hid _ from H0.out.below hb1)
    have HB1 := (show Hid _ from HB0.out.trans (hb1.mono HB0.out.size))
    have HF := (show Hid _ from hv)
    clear hfi hq0 hz0 hb1 H0 HB0 hv
    go_upto_region 4 with fail
    obtain ⟨br, hbr⟩ : ∃ br, brokenB i s.size = br := ⟨_, rfl⟩
    have HBR := (show Hid _ from hbr)
    clear hbr
    go_cut [30] from 31 to 48 (fun c wx => c = .bool br ∧ wx = w1)
    case first =>
      obtain ⟨m, hm⟩ : ∃ m, i.more = m := ⟨_, rfl⟩
      obtain ⟨n, hn⟩ : ∃ n, s.size = n := ⟨_, rfl⟩
      have h2 := q1 2
      have h4 := q1 4
      simp only [ipV] at h2 h4
      simp at h2 h4
      rw [hm] at h2
      have ht : ((n : Int).tmod 8) = ((n % 8 : Nat) : Int) := by rw [Int.tmod_eq_emod_of_nonneg (by omega)]; omega
      rw [hn] at hs
      obtain ⟨q, hq⟩ : ∃ q : Nat, q = n % 8 := ⟨_, rfl⟩
      have hq8 : q < 8 := by omega
      rw [← hq] at ht
      have hBB := HBR.out
      unfold brokenB at hBB
      rw [hm, hn, ← hq] at hBB
      have HBB := (show Hid _ from hBB.symm)
      clear q1 hm hBB hq
      by_cases n0 : n = 0
      · have d0 : ((n : Int) == 0) = true := beq_iff_eq.2 (by omega)
        go_wp2_with fail
        go_meet
        exact ⟨by rw [HBB.out]; simp [n0], rfl⟩
      · have d0 : ((n : Int) == 0) = false := by simp; omega
        by_cases o0 : i.off < 0
        · have d1 : decide (i.off < 0) = true := by simp [o0]
          go_wp2_with fail
          go_meet
          exact ⟨by rw [HBB.out]; simp [o0], rfl⟩
        · have d1 : decide (i.off < 0) = false := by simp; omega
          cases m
          · go_wp2_with fail
            go_meet
            exact ⟨by rw [HBB.out]; simp <;> omega, rfl⟩
          · by_cases q0 : q = 0
            · have d2 : ((q : Int) != 0) = false := by simp; omega
              go_wp2_with fail
              go_meet
              exact ⟨by rw [HBB.out]; simp <;> omega, rfl⟩
            · have d2 : ((q : Int) != 0) = true := by simp; omega
              go_wp2_with fail
              go_meet
              exact ⟨by rw [HBB.out]; simp <;> omega, rfl⟩
    case rest =>
      obtain ⟨rfl, hw⟩ := hcut
      have hw' := hw.symm
      subst hw'
      have hno : ¬ partB i = false := by rw [HP.out]; intro e; cases e
      have HA1 := HA.out
      unfold addR at HA1
      rw [if_neg hno] at HA1
      rw [HBR.out] at HA1
      clear hno
      cases br
      rotate_left 1
      · have HA2 := (show Hid _ from HA1)
        clear HA1 q1
        go_wp2_with fail
        refine bodyPost_ret (v := .tuple #[.string ⟨#[]⟩, .bool false, .int .i64 3]) (results_tmp3 Try.results16 _ _ _) rfl ⟨?_, L, ?_, G, _, Kept.of_below G HB1.out, H1.out⟩
        · rw [← HA2.out]; rfl
        · rw [← HA2.out]; rfl
      · rw [if_neg (by decide)] at HA1
        have HA2 := (show Hid _ from HA1)
        have hnb : s.size ≠ 0 ∧ 0 ≤ i.off := by
          have := HBR.out
          unfold brokenB at this
          rw [Bool.or_eq_false_iff, Bool.or_eq_false_iff] at this
          exact ⟨of_decide_eq_false this.1.1, by have := of_decide_eq_false this.1.2; omega⟩
        clear HA1 HA
        obtain ⟨bg, hbg⟩ : ∃ bg, decide (2000 - i.off < (s.size : Int)) = bg := ⟨_, rfl⟩
        have HBG := (show Hid _ from hbg)
        clear hbg
        go_upto_region 6 with fail
        go_cut [49] from 50 to 60 (fun c wx => c = .bool bg ∧ wx = w1)
        case first =>
          obtain ⟨n, hn⟩ : ∃ n, s.size = n := ⟨_, rfl⟩
          have h4 := q1 4
          simp only [ipV] at h4
          simp at h4
          have hgg := HBG.out
          rw [hn] at hs hnb hgg
          have HGG := (show Hid _ from hgg.symm)
          clear q1 hgg
          by_cases n2 : 2000 < n
          · have d0 : decide (2000 < (n : Int)) = true := by simp; omega
            go_wp2_with fail
            go_meet
            exact ⟨by rw [HGG.out]; simp <;> omega, rfl⟩
          · have d0 : decide (2000 < (n : Int)) = false := by simp; omega
            go_wp2_with fail
            go_meet
            refine ⟨?_, rfl⟩
            rw [HGG.out]
            congr 1
            rw [decide_eq_decide]
            omega
        case rest =>
          obtain ⟨rfl, hw⟩ := hcut
          have hw' := hw.symm
          subst hw'
          cases bg
          rotate_left 1
          · have HA3 := HA2.out
            rw [if_pos (of_decide_eq_true HBG.out)] at HA3
            have HA4 := (show Hid _ from HA3)
            clear HA3 HA2 q1
            rcases HF.out with ⟨k, x, rfl, hx, hn, hj⟩ | ⟨rfl, hu⟩
            · have hid := idx_some hx hn hj
              have hdr := drop_any H1.out k (List.getElem?_eq_some_iff.1 hx).1
              have HI := (show Hid _ from hid)
              clear hx hn hj hid
              go_wp2_with fail
              refine hdr.mono ?_
              rintro r w2 ⟨rfl, G2, v2, k2, h2⟩
              have HH := (show Hid _ from And.intro k2 h2)
              clear hdr k2 h2
              go_wp2_with fail
              refine bodyPost_ret (v := .tuple #[.string ⟨#[]⟩, .bool false, .int .i64 5]) (results_tmp3 Try.results16 _ _ _) rfl ⟨?_, _, ?_, G2, v2, (Kept.of_below G HB1.out).trans HH.out.1, HH.out.2⟩
              · rw [← HA4.out]
              · rw [← HA4.out, HI.out, ← List.eraseIdx_eq_take_drop_succ]
                exact map_erase L k
            · have hid := idx_no hu
              have hdr := fun w => drop_none (w := w) rt (-1) (by omega)
              have HI := (show Hid _ from hid)
              clear hu hid
              go_wp2_with fail
              refine (hdr _).mono ?_
              rintro r w2 ⟨rfl, rfl⟩
              clear hdr
              go_wp2_with fail
              refine bodyPost_ret (v := .tuple #[.string ⟨#[]⟩, .bool false, .int .i64 5]) (results_tmp3 Try.results16 _ _ _) rfl ⟨?_, L, ?_, G, _, Kept.of_below G HB1.out, H1.out⟩
              · rw [← HA4.out]
              · rw [← HA4.out, HI.out]
          · have HA3 := HA2.out
            rw [if_neg (of_decide_eq_false HBG.out)] at HA3
            have HA4 := (show Hid _ from HA3)
            have hbig : i.off + (s.size : Int) ≤ 2000 := by have := of_decide_eq_false HBG.out; omega
            clear HA3 HA2 HBG HBR
            obtain ⟨fu, hfu⟩ : ∃ fu, (decide (v < 0) && decide (most ≤ (L.length : Int))) = fu := ⟨_, rfl⟩
            have HFU := (show Hid _ from hfu)
            clear hfu
            have hs2 : s.size ≤ 2000 := by omega
            go_upto_region 9 with fail
            go_cut [64] from 65 to 78 (fun c wx => c = .bool fu ∧ Below w1.heap.size w1 wx)
            case first =>
              have hcl := Cls.cell (w := w1)
              rcases HF.out with ⟨k, x, rfl, _⟩ | ⟨rfl, hu⟩
              · have d0 : decide ((k : Int) < 0) = false := by simp
                have HU := HFU.out
                rw [d0, Bool.false_and] at HU
                have HU2 := (show Hid _ from HU)
                clear HU
                refine wp_region_calm (by kernel_rfl) (by kernel_rfl) (fun hne => ?_)
                repeat (go_big_quiet_step (fail))
                refine wpQuiet_nil ?_
                rintro _ ⟨y, rfl⟩
                go_wp2_with fail
                go_meet
                exact ⟨by rw [← HU2.out], y.bel⟩
              · obtain ⟨av, cv, hvL⟩ := own_slice H1.out.row
                have c3 := H1.out.c3
                rw [hvL] at c3
                have c0 := H1.out.c0
                have hrt := H1.out.lt rt H1.out.gr
                have hn32 := H1.out.few.1
                have HU := HFU.out
                rw [show decide ((-1 : Int) < 0) = true from rfl, Bool.true_and] at HU
                clear hu hvL q1
                cases fu
                all_goals
                  have HU2 := (show Hid _ from trivial)
                  refine wp_region_calm (by kernel_rfl) (by kernel_rfl) (fun hne => ?_)
                  repeat (go_big_quiet_step (fail))
                  refine wpQuiet_nil ?_
                  rintro _ ⟨y, rfl⟩
                  go_wp2_with fail
                  go_meet
                  exact ⟨rfl, y.bel⟩
            case rest =>
              obtain ⟨rfl, hbw⟩ := hcut
              have HBW := (show Hid _ from hbw)
              have qc : ∀ o, wc.cell? ⟨bx, o, none⟩ = (ipV i)[o]? := fun o => by rw [hbw.cell (by exact z1), q1 o]
              have zc : bx < wc.heap.size := Nat.lt_of_lt_of_le z1 hbw.size
              have Hc := (show Hid _ from H1.out.below hbw)
              clear hbw q1
              cases fu
              rotate_left 1
              · rcases HF.out with ⟨k, x, rfl, _⟩ | ⟨rfl, hu⟩
                · exfalso
                  have := HFU.out
                  rw [Bool.and_eq_true, decide_eq_true_eq] at this
                  omega
                · have hid := idx_no hu
                  have HA5 := HA4.out
                  have hm : most ≤ ((L.map Prod.fst).length : Int) := by
                    have := HFU.out
                    rw [Bool.and_eq_true, decide_eq_true_eq, decide_eq_true_eq] at this
                    rw [List.length_map]; exact this.2
                  rw [hid] at HA5
                  simp only [if_pos hm] at HA5
                  have HA6 := (show Hid _ from HA5)
                  clear hid hu HA5 hm qc
                  go_wp2_with fail
                  refine bodyPost_ret (v := .tuple #[.string ⟨#[]⟩, .bool false, .int .i64 10]) (results_tmp3 Try.results16 _ _ _) rfl ⟨?_, L, ?_, G, _, Kept.of_below G (HB1.out.trans (HBW.out.mono HB1.out.size)), Hc.out⟩
                  · rw [← HA6.out]
                  · rw [← HA6.out]
              · go_upto_if 80 with fail
                go_cut [9] from 81 to 108 (fun v9 wx => ∃ k : Nat, v9 = .int .i64 (k : Int) ∧ Hid (Sel w1 G rt most ticks now i s A k wx))
                case first =>
                  rcases HF.out with ⟨k, x, rfl, hx, hn, hj⟩ | ⟨rfl, hu⟩
                  · have hid := idx_some hx hn hj
                    have HS : Hid (Sel w1 G rt most ticks now i s A k wc) := by
                      refine ⟨L, G, _, (List.getElem?_eq_some_iff.1 hx).1, fun y hy => ?_, HG.out, Kept.of_below G HBW.out, Hc.out⟩
                      have := HA4.out
                      rw [hid] at this
                      simp only [map_fst_get hy, Option.getD_some] at this
                      exact this.symm
                    have d0 : decide ((k : Int) < 0) = false := by simp
                    clear hid hx hn hj qc
                    go_wp2_with fail
                    go_meet
                    exact ⟨k, rfl, HS⟩
                  · have hid := idx_no hu
                    have HA5 := HA4.out
                    have hm : ¬ most ≤ ((L.map Prod.fst).length : Int) := by
                      have := HFU.out
                      rw [show decide ((-1 : Int) < 0) = true from rfl, Bool.true_and, decide_eq_false_iff_not] at this
                      rw [List.length_map]; exact this
                    rw [hid] at HA5
                    simp only [if_neg hm] at HA5
                    rw [List.length_map] at hm HA5
                    have HA6 := (show Hid _ from HA5)
                    have hn31 : L.length < 32 := by have := Hc.out.few.2.2.1.2; omega
                    have hrd : Rd wc rt bx vL now i := ⟨Hc.out.c2, Hc.out.c3, qc, Hc.out.fz, Hc.out.lt rt Hc.out.gr, zc⟩
                    have hrl := Hc.out.rtL
                    have hbl : vL.ownBlock ≠ some bx := fun e => NB.out (Hc.out.gL bx e)
                    obtain ⟨av, cv, hvL⟩ := own_slice Hc.out.row
                    have hrow : Hid (wc.ownsRow 0 62 7 vL L.length (rowE L)) := Hc.out.row
                    have HRD := (show Hid _ from hrd)
                    clear hid hu HA5 hm qc zc hrd
                    go_upto_region 12 with fail
                    refine wp_region_spineM [true, true, true, true, true, true, true, true, true, true, true, true, true, true, true, true, true, true] [false, false, false, false, false, false, false, false, false, false, false, false, false, false, false, false, false, false, true, true] 20 (A := ?A) (fun x => Rd x rt bx vL now i) (by kernel_rfl) (by kernel_rfl) (by rfl) HRD.out.drew ?walk ?tail
                    case walk =>
                      intro x hx
                      obtain ⟨x2, x3, xq, xf, xr, xb⟩ := hx
                      rw [hvL] at x3
                      simp only [pickM]
                      repeat (go_big_quiet_step (fail))
                      refine wpQuiet_nil ?_
                      rfl
                    case tail =>
                      simp only [pickM]
                      obtain ⟨i0, hi, hz0, hz1, hz2⟩ := info_parts infoE
                      refine goD_slice rfl 35 (.tmp 98) rfl _ _ _ rfl (lit_entry wc.drew (.int .u32 (i.src.toNat : Int)) (.int .u32 (i.dst.toNat : Int)) (.int .i64 i.proto) (.int .i64 i.id) (.slice none 0 0) (.int .i64 (-1)) (.int .i64 now)) ?_
                      obtain ⟨w2, hw2⟩ : ∃ w2, w2 = wc.drew.alloc (.cells #[.int .u32 (i.src.toNat : Int), .int .u32 (i.dst.toNat : Int), .int .i64 i.proto, .int .i64 i.id, .slice none 0 0, .int .i64 (-1), .int .i64 now] 62) := ⟨_, rfl⟩
                      have hnw := alloc_news wc.drew (entV (RE.fresh i now) (.slice none 0 0)) 62
                      rw [show (entV (RE.fresh i now) (.slice none 0 0)).toArray = (#[.int .u32 (i.src.toNat : Int), .int .u32 (i.dst.toNat : Int), .int .i64 i.proto, .int .i64 i.id, .slice none 0 0, .int .i64 (-1), .int .i64 now] : Array Value) from rfl, ← hw2] at hnw
                      have hb2 : Below wc.heap.size wc w2 := by rw [hw2]; exact (Below.refl _ _).drew.alloc (Nat.le_refl _) _
                      have ho2 : w2.ownsRow 0 62 7 vL L.length (rowE L) := by rw [hw2]; exact (World.ownsRow.drew hrow.out).alloc _
                      have hz2s : w2.heap.size = wc.heap.size + 1 := by rw [hw2]; simp
                      rw [← hw2]
                      clear hw2
                      have d2 : Rd w2 rt bx vL now i := HRD.out.kept (Kept.of_below (fun _ => False) hb2) id id
                      refine ⟨d2, ?_⟩
                      refine goD_append2 rfl (.tmp 85) (.tmp 99) 35 rfl 0 62 i0 _ 7 64 Try.underlying35 hi hz0 hz1 hz2 rfl (by decide) vL L.length (rowE L) (by rw [hvL]; rfl) ho2 ⟨wc.heap.size, 0, none⟩ 1 1 (entV (RE.fresh i now) (.slice none 0 0)) rfl rfl hnw (by intro u hu; simp [entV] at hu; rcases hu with rfl | rfl | rfl | rfl | rfl | rfl | rfl <;> rfl) (by unfold maxLen; omega) (by omega) (Nat.zero_le _) ?_
                      intro v3 w3 ho3 hg3 hv3
                      have k3 := kept_row hg3 hv3
                      have d3 := d2.kept k3 hrl hbl
                      refine ⟨d3, ?_⟩
                      have hk3 := (Kept.of_below (fun b => vL.ownBlock = some b) hb2).trans k3
                      have hpush := Hc.out.push (RE.fresh i now) rfl hk3 ho3 (hv3.imp id (fun ⟨b, e, hb⟩ => ⟨b, e, by omega⟩)) hn31
                      have HS : Hid (Sel w1 G rt most ticks now i s A L.length (w3.setCell ⟨rt, 3, none⟩ v3)) := by
                        refine ⟨_, _, _, ?_, fun y hy => ?_, fun y hy => ?_, (Kept.of_below G HBW.out).trans hpush.1, hpush.2⟩
                        · rw [List.length_append]; simp
                        · rw [List.getElem?_append_right (Nat.le_refl _), Nat.sub_self] at hy
                          simp at hy
                          subst hy
                          rw [List.map_append]
                          exact HA6.out.symm
                        · rcases List.mem_append.1 hy with hy | hy
                          · exact HG.out y hy
                          · rw [List.mem_singleton.1 hy]; exact GoodE.fresh i now
                      have c3' := d3.c3
                      have f3' := d3.f 3
                      have l3' := d3.lr
                      obtain ⟨a3, n3, hv3s⟩ := own_slice ho3
                      rw [hvL] at c3'
                      subst hv3s
                      clear hpush hk3 k3 d3 d2 hg3 hv3 ho3 ho2 hb2 hnw hrl hbl
                      unfold goD
                      simp only [List.drop_succ_cons, List.drop_zero, Act.put]
                      go_wp2_with fail
                      go_meet
                      exact ⟨L.length, by go_num, HS⟩
                case rest =>
                  obtain ⟨k, rfl, HS⟩ := hcut
                  obtain ⟨L1, G1, vL1, hk1, hA1, hG1, k1, h1⟩ := HS.out
                  obtain ⟨x, hx⟩ : ∃ x, L1[k]? = some x := ⟨L1[k], by simp [hk1]⟩
                  have hAx := hA1 x hx
                  have hgx := hG1 x (List.mem_of_getElem? hx)
                  obtain ⟨g, cap, hv1, hg1, hfz1, hent⟩ := h1.ent (by omega)
                  subst hv1
                  have e := hent k x hx
                  have d3 := h1.c3
                  have hrt1 := h1.lt rt h1.gr
                  have h32 := h1.few.1
                  have q2 : ∀ o, wc.cell? ⟨bx, o, none⟩ = (ipV i)[o]? := fun o => by rw [k1.cell bx o z1 NB.out]; exact Q1.out o
                  have z2 : bx < wc.heap.size := Nat.lt_of_lt_of_le z1 k1.size
                  have HX := (show Hid _ from hx)
                  have HAX := (show Hid _ from hAx)
                  have HGX := (show Hid _ from hgx)
                  have HG1 := (show Hid _ from hG1)
                  have HH1 := (show Hid _ from And.intro k1 h1)
                  have HN1 : Hid (Kept G w G w1) := Kept.of_below G HB1.out
                  clear hx hAx hgx hA1 hG1 k1 h1 hent HS HG HF HFU HBW Hc qc zc H1 HA4 HBX
                  obtain ⟨E1, hE1⟩ : ∃ E1, E1 = x.1.endR i s.size := ⟨_, rfl⟩
                  have HE1 := (show Hid _ from hE1)
                  clear hE1
                  have e5 := e.e5
                  have hf5 := hfz1 (k * 7 + 5)
                  clear e hfz1
                  obtain ⟨ce, hce⟩ : ∃ ce, (!i.more && decide (x.1.all < 0)) = ce := ⟨_, rfl⟩
                  have HCE := (show Hid _ from hce)
                  clear hce
                  go_upto_region 15 with fail
                  go_cut [124] from 115 to 124 (fun c wx => c = .bool ce ∧ wx = wc)
                  case first =>
                    obtain ⟨m, hm⟩ : ∃ m, i.more = m := ⟨_, rfl⟩
                    have h2 := q2 2
                    simp only [ipV] at h2
                    simp at h2
                    have hce := HCE.out
                    rw [hm] at h2 hce
                    have HC2 := (show Hid _ from hce)
                    clear q2 hm hce
                    cases m
                    · by_cases hal : x.1.all < 0
                      · have d0 : decide (x.1.all < 0) = true := by simp [hal]
                        go_wp2_with fail
                        go_meet
                        exact ⟨by rw [← HC2.out, d0]; rfl, rfl⟩
                      · have d0 : decide (x.1.all < 0) = false := by simp; omega
                        go_wp2_with fail
                        go_meet
                        exact ⟨by rw [← HC2.out, d0]; rfl, rfl⟩
                    · go_wp2_with fail
                      go_meet
                      exact ⟨by rw [← HC2.out]; rfl, rfl⟩
                  case rest =>
                    obtain ⟨rfl, hw⟩ := hcut
                    have hw' := hw.symm
                    subst hw'
                    go_upto_if 124 with fail
                    go_cut [] from 125 to 132 (fun wx => Hid (Mid w1 G rt g L1.length cap most ticks now L1 k E1 wx))
                    case first =>
                      have h4 := q2 4
                      simp only [ipV] at h4
                      simp at h4
                      clear q2
                      cases ce
                      · have hE : E1 = x.1 := by
                          rw [HE1.out]
                          unfold RE.endR
                          rw [if_neg]
                          rintro ⟨h1, h2⟩
                          have := HCE.out
                          rw [h1] at this
                          simp at this
                          omega
                        have HM : Hid (Mid w1 G rt g L1.length cap most ticks now L1 k E1 wc) := by
                          refine ⟨G1, x.2, HH1.out.1, ?_⟩
                          rw [hE, show ((x.1, x.2) : RE × Value) = x from rfl, set_same HX.out]
                          exact HH1.out.2
                        clear hE
                        go_wp2_with fail
                        go_meet
                        exact HM
                      · obtain ⟨ea, hea⟩ : ∃ ea : Int, ea = i.off + (s.size : Int) := ⟨_, rfl⟩
                        have HEA : Hid (E1 = { x.1 with all := ea }) := by
                          show _ = _
                          rw [HE1.out, hea]
                          unfold RE.endR
                          rw [if_pos]
                          have := HCE.out
                          rw [Bool.and_eq_true, decide_eq_true_eq, Bool.not_eq_true'] at this
                          exact this
                        have hsum : i.off + (s.size : Int) = ea := hea.symm
                        clear hea
                        go_wp2_with fail
                        try rw [hsum]
                        go_meet
                        show Mid _ _ _ _ _ _ _ _ _ _ _ _ _
                        obtain ⟨b1, b2⟩ := HH1.out.2.setAll k x HX.out ea
                        exact ⟨G1, x.2, HH1.out.1.trans b1, by rw [HEA.out]; exact b2⟩
                    case rest =>
                      have HM := hcut
                      clear hcut e5 hf5 q2 z2 d3 hrt1 hg1 HCE HH1 hw
                      obtain ⟨O, hO⟩ : ∃ O : Nat, i.off = (O : Int) := ⟨i.off.toNat, by omega⟩
                      have hO2 : O + s.size ≤ 2000 := by omega
                      have Q4 : Hid (w1.cell? ⟨bx, 4, none⟩ = some (.int .i64 (O : Int))) := by
                        show _ = _
                        rw [Q1.out 4, ← hO]
                        rfl
                      have hOn : i.off.toNat = O := by omega
                      have HO := (show Hid _ from And.intro hO hOn)
                      have hE1ps : E1.ps = x.1.ps := by rw [HE1.out, endR_ps]
                      have HGL : Hid (∀ j, j ≤ s.size → ((layP E1.all O s E1.ps j).map Prod.fst).Nodup ∧ ∀ p ∈ layP E1.all O s E1.ps j, p.1 < 2000) := by
                        intro j hj
                        rw [hE1ps]
                        exact layP_good HGX.out.nd (fun p hp => (HGX.out.lt p hp).1) j (by omega)
                      have hall : E1.all < 0 ∨ (1 ≤ E1.all ∧ E1.all ≤ 2000) := by
                        have := HGX.out.all
                        rw [HE1.out]
                        unfold RE.endR
                        split
                        · exact .inr ⟨by show 1 ≤ i.off + (s.size : Int); omega, by show i.off + (s.size : Int) ≤ 2000; omega⟩
                        · exact this
                      clear hO hOn hE1ps hio
                      obtain ⟨al, hal⟩ : ∃ al, al = E1.all := ⟨_, rfl⟩
                      rw [← hal] at hall HGL
                      have HAL := (show Hid _ from hal)
                      clear hal
                      go_wp2_with fail
                      go_loopw [11] (fun t wr => ∃ j : Nat, j ≤ s.size ∧ t = .int .i64 (j : Int) ∧ Hid (Mid w1 G rt g L1.length cap most ticks now L1 k { E1 with ps := layP al O s E1.ps j } wr)) (fun t _ => s.size - (intOf t).toNat)
                      case atStart => exact ⟨0, Nat.zero_le _, rfl, HM⟩
                      case round =>
                        obtain ⟨j, hj, rfl, HJ⟩ := hrel
                        clear HM
                        obtain ⟨ps, hps⟩ : ∃ ps, ps = layP al O s E1.ps j := ⟨_, rfl⟩
                        rw [← hps] at HJ
                        have HPS := (show Hid _ from hps)
                        obtain ⟨gnd, glt⟩ := HGL.out j hj
                        rw [← hps] at gnd glt
                        have hpl := few_of gnd glt
                        have GN := (show Hid _ from And.intro gnd glt)
                        clear gnd glt
                        obtain ⟨G3, v3, k3, h3⟩ := HJ.out
                        have hx3 : (L1.set k ({ E1 with ps := ps }, v3))[k]? = some ({ E1 with ps := ps }, v3) := List.getElem?_set_self hk1
                        obtain ⟨g', cap', hv', hg3, hfz3, hent⟩ := h3.ent (by rw [List.length_set]; omega)
                        have hgg := slice_g hv'
                        clear hv'
                        subst hgg
                        obtain ⟨e0, e1, e2, e3, e4, e5, e6⟩ := hent k _ hx3
                        simp only at e4 e5
                        rw [← HAL.out] at e5
                        have hprt := h3.parts _ (List.mem_of_getElem? hx3)
                        have n3g : v3.ownBlock ≠ some g' := by
                          rcases h3.rowAp _ (List.mem_of_getElem? hx3) with z | z
                          · intro y; rw [show v3.ownBlock = none from z] at y; cases y
                          · exact z
                        have n3b : v3.ownBlock ≠ some bx := fun y => k3.not bx z1 NB.out (h3.gP _ (List.mem_of_getElem? hx3) bx y)
                        have zb3 : bx < wr.heap.size := Nat.lt_of_lt_of_le z1 k3.size
                        have hrd : Rd2 wr g' (k * 7) bx v3 O := ⟨e4, by rw [k3.cell bx 4 z1 NB.out]; exact Q4.out, hfz3 _, hg3, zb3⟩
                        have HRD := (show Hid _ from hrd)
                        have o4 := hrd.o
                        have HN3 := (show Hid _ from And.intro n3g n3b)
                        have HH3 := (show Hid _ from And.intro k3 (And.intro h3 (And.intro hx3 hprt)))
                        clear hrd k3 h3 hx3 hent hfz3 e0 e1 e2 e3 e6 n3g n3b hps
                        by_cases hjs : j < s.size
                        · obtain ⟨ha, hha⟩ : ∃ ha, ha = hasAt ps ((O : Int) + (j : Int)) := ⟨_, rfl⟩
                          have hcall := has_any (e := { E1 with ps := ps }) hg3 e4 hprt hpl ((O : Int) + (j : Int))
                          rw [← hha] at hcall
                          have HHA := (show Hid _ from hha)
                          clear hha hprt
                          go_wp2_with fail
                          refine hcall.mono ?_
                          rintro r w4 ⟨⟨u0, rfl⟩, rfl⟩
                          clear hcall
                          obtain ⟨room, hroom⟩ : ∃ room, room = roomP al ps (O + j) := ⟨_, rfl⟩
                          have HRO := (show Hid _ from hroom)
                          clear hroom
                          go_upto_region 21 with fail
                          go_cut [167] from 148 to 167 (fun c wx => c = .bool room ∧ Below wr.heap.size wr wx)
                          case first =>
                            have hcl := Cls.cell (w := wr)
                            have HR2 : Hid (room = (!ha && (decide (al < 0) || decide ((O : Int) + (j : Int) < al)))) := by
                              show _ = _
                              rw [HRO.out, HHA.out]
                              rfl
                            cases ha
                            · by_cases hal : al < 0
                              · have d0 : decide (al < 0) = true := by simp [hal]
                                refine wp_region_calm (by kernel_rfl) (by kernel_rfl) (fun hne => ?_)
                                repeat (go_big_quiet_step (fail))
                                refine wpQuiet_nil ?_
                                rintro _ ⟨y, rfl⟩
                                go_wp2_with fail
                                go_meet
                                exact ⟨by rw [HR2.out, d0]; rfl, y.bel⟩
                              · have d0 : decide (al < 0) = false := by simp; omega
                                refine wp_region_calm (by kernel_rfl) (by kernel_rfl) (fun hne => ?_)
                                repeat (go_big_quiet_step (fail))
                                refine wpQuiet_nil ?_
                                rintro _ ⟨y, rfl⟩
                                go_wp2_with fail
                                go_meet
                                exact ⟨by rw [HR2.out, d0]; rfl, y.bel⟩
                            · refine wp_region_calm (by kernel_rfl) (by kernel_rfl) (fun hne => ?_)
                              repeat (go_big_quiet_step (fail))
                              refine wpQuiet_nil ?_
                              rintro _ ⟨y, rfl⟩
                              go_wp2_with fail
                              go_meet
                              exact ⟨by rw [HR2.out]; rfl, y.bel⟩
                          case rest =>
                            obtain ⟨rfl, hbw⟩ := hcut
                            have HBW := (show Hid _ from hbw)
                            clear hbw e4 e5 hg3 zb3 o4 HHA
                            cases room
                            · go_wp2_with fail
                              go_roundw
                              case rel =>
                                refine ⟨j + 1, by omega, by go_num, ?_⟩
                                have : layP al O s E1.ps (j + 1) = ps := by
                                  rw [layP, ← HPS.out, ← HRO.out]
                                  simp
                                rw [this]
                                exact ⟨G3, v3, HH3.out.1.trans (Kept.of_below G3 HBW.out), HH3.out.2.1.below HBW.out⟩
                              case measure => simp [intOf]; omega
                            · have hrd : Rd2 wc g' (k * 7) bx v3 O := HRD.out.kept (Kept.of_below (fun _ => False) HBW.out) id id
                              have HRC := (show Hid _ from hrd)
                              have hprt : Hid (wc.ownsRow 0 73 2 v3 ps.length (rowP ps)) := ownsRow_block HH3.out.2.2.2 (fun b e => HBW.out.block b (HH3.out.2.2.2.lt b e).2)
                              have h3c := (show Hid _ from HH3.out.2.1.below HBW.out)
                              obtain ⟨a3, c3, hv3⟩ := own_slice hprt.out
                              have hpl9 : Hid (ps.length < 2000) := by
                                have h1 := few_of (n := 2000) (HGL.out (j + 1) (by omega)).1 (HGL.out (j + 1) (by omega)).2
                                rw [layP, ← HPS.out, ← HRO.out, if_pos rfl, List.length_append] at h1
                                show _ < _
                                simp at h1
                                omega
                              have hbs := byte_at s j hjs
                              have HBS := (show Hid _ from hbs)
                              clear hrd hbs
                              go_upto_region 22 with fail
                              refine wp_region_spineM [true, true, true, true, true, true, true, true, true, true, true, true, true] [false, false, false, false, false, false, false, false, false, false, false, false, false, true, true] 15 (A := ?A2) (fun x => Rd2 x g' (k * 7) bx v3 O) (by kernel_rfl) (by kernel_rfl) (by rfl) HRC.out.drew ?walk2 ?tail2
                              case walk2 =>
                                intro x hx
                                obtain ⟨xc, xo, xf, xg, xb⟩ := hx
                                rw [hv3] at xc
                                simp only [pickM]
                                repeat (go_big_quiet_step (fail))
                                refine wpQuiet_nil ?_
                                rfl
                              case tail2 =>
                                simp only [pickM]
                                obtain ⟨i0, hi, hz0, hz1, hz2⟩ := info_parts infoP
                                refine goD_slice rfl 60 (.tmp 180) rfl _ _ _ rfl (lit_part wc.drew ((O : Int) + (j : Int)) (s[j])) ?_
                                obtain ⟨w2, hw2⟩ : ∃ w2, w2 = wc.drew.alloc (.cells #[.int .i64 ((O : Int) + (j : Int)), bv s[j]] 73) := ⟨_, rfl⟩
                                have hnw := alloc_news wc.drew (parV (O + j, s[j])) 73
                                rw [parV_arr, ← hw2] at hnw
                                have hb2 : Below wc.heap.size wc w2 := by rw [hw2]; exact (Below.refl _ _).drew.alloc (Nat.le_refl _) _
                                have ho2 : w2.ownsRow 0 73 2 v3 ps.length (rowP ps) := by rw [hw2]; exact (World.ownsRow.drew hprt.out).alloc _
                                have hz2s : w2.heap.size = wc.heap.size + 1 := by rw [hw2]; simp
                                rw [← hw2]
                                clear hw2
                                have d2 := HRC.out.kept (Kept.of_below (fun _ => False) hb2) id id
                                refine ⟨d2, ?_⟩
                                have hp9 := hpl9.out
                                refine goD_append2 rfl (.tmp 172) (.tmp 181) 60 rfl 0 73 i0 _ 2 16 Try.underlying60 hi hz0 hz1 hz2 rfl (by decide) v3 ps.length (rowP ps) (by rw [hv3]; rfl) ho2 ⟨wc.heap.size, 0, none⟩ 1 1 (parV (O + j, s[j])) rfl rfl hnw (by intro u hu; simp [parV] at hu; rcases hu with rfl | rfl <;> rfl) (by unfold maxLen; omega) (by omega) (Nat.zero_le _) ?_
                                intro v4 w4 ho4 hg4 hv4
                                have k4 := kept_row hg4 hv4
                                have d4 := d2.kept k4 HN3.out.1 HN3.out.2
                                refine ⟨d4, ?_⟩
                                have hk4 := (Kept.of_below (fun b => v3.ownBlock = some b) hb2).trans k4
                                have hly : layP al O s E1.ps (j + 1) = ps ++ [(O + j, s[j])] := by
                                  rw [layP, ← HPS.out, ← HRO.out, if_pos rfl, HBS.out]
                                have hfew := HGL.out (j + 1) (by omega)
                                rw [hly] at hfew
                                have hset := h3c.out.setPs k _ HH3.out.2.2.1 (ps ++ [(O + j, s[j])]) v4 hk4 (by rw [rowP_snoc, List.length_append]; exact ho4) (hv4.imp id (fun ⟨b, e, hb⟩ q hq => by rw [e] at hq; injection hq with hq; omega)) ⟨few_of hfew.1 hfew.2, hfew.2⟩
                                have HS : Hid (Mid w1 G rt g' L1.length cap most ticks now L1 k { E1 with ps := layP al O s E1.ps (j + 1) } (w4.setCell ⟨g', k * 7 + 4, none⟩ v4)) := by
                                  rw [hly]
                                  refine ⟨_, v4, (HH3.out.1.trans (Kept.of_below G3 HBW.out)).trans hset.1, ?_⟩
                                  have := hset.2
                                  rw [List.set_set] at this
                                  exact this
                                have c4' := d4.c
                                have f4' := d4.f
                                have l4' := d4.lg
                                obtain ⟨a4, n4, hv4s⟩ := own_slice ho4
                                rw [hv3] at c4'
                                subst hv4s
                                clear hset hk4 k4 d4 d2 hg4 hv4 ho4 ho2 hb2 hnw hly hfew hp9
                                unfold goD
                                simp only [List.drop_succ_cons, List.drop_zero, Act.put]
                                go_wp2_with fail
                                go_roundw
                                case rel => exact ⟨j + 1, by omega, by go_num, HS⟩
                                case measure => simp [intOf]; omega
                        · obtain rfl : j = s.size := by omega
                          obtain ⟨a3, c3, hv3⟩ := own_slice hprt
                          change v3 = .slice a3 ps.length c3 at hv3
                          subst hv3
                          have HP3 : Hid (wr.ownsRow 0 73 2 (.slice a3 ps.length c3) ps.length (rowP ps)) := hprt
                          clear hprt o4 zb3 HRD Q4
                          go_wp2_with fail
                          obtain ⟨wo, hwo⟩ : ∃ wo, wo = wr := ⟨_, rfl⟩
                          subst hwo
                          go_loopw [14, 15] (fun vm t wx => ∃ j2 : Nat, j2 ≤ ps.length ∧ t = .int .i64 (j2 : Int) ∧ Hid (MRow wo wx vm ((ps.take j2).filter (keepP al)))) (fun _ t _ => ps.length - (intOf t).toNat)
                          case atStart => exact ⟨0, Nat.zero_le _, rfl, ⟨World.ownsRow_nil _ _ _ _, Below.refl _ _⟩⟩
                          case round =>
                            obtain ⟨j2, hj2, rfl, HR⟩ := hrel
                            have f4 : wr.cell? ⟨g', k * 7 + 4, none⟩ = some (.slice a3 ps.length c3) := by rw [HR.out.bel.cell (by exact hg3), e4]
                            have f5 : wr.cell? ⟨g', k * 7 + 5, none⟩ = some (.int .i64 al) := by rw [HR.out.bel.cell (by exact hg3), e5]
                            have hgx : g' < wr.heap.size := Nat.lt_of_lt_of_le hg3 HR.out.bel.size
                            obtain ⟨F, hF⟩ : ∃ F, F = (ps.take j2).filter (keepP al) := ⟨_, rfl⟩
                            rw [← hF] at HR
                            have hFl : F.length ≤ 2000 := by
                              rw [hF]
                              have h1 := List.length_filter_le (keepP al) (ps.take j2)
                              have h2 := List.length_take_le j2 ps
                              omega
                            have HF2 := (show Hid _ from hF)
                            obtain ⟨am, cm, hvm⟩ := own_slice HR.out.own
                            subst hvm
                            have HE4 := (show Hid _ from And.intro e4 e5)
                            have HG3 := (show Hid _ from hg3)
                            clear hF e4 e5 hg3
                            by_cases hjl : j2 < ps.length
                            · obtain ⟨gp, cap2, hv, hgp, hfz, hpt⟩ := parts_at (ownsRow_block HP3.out (fun b e => HR.out.bel.block b (HP3.out.lt b e).2)) (show 0 < ps.length by omega)
                              injection hv with hv1 _ hv3
                              subst hv1 hv3
                              obtain ⟨p, hpk⟩ : ∃ p, ps[j2]? = some p := ⟨ps[j2], by simp [hjl]⟩
                              obtain ⟨t1, t2⟩ := hpt j2 p hpk
                              have HPK := (show Hid _ from hpk)
                              clear hpt hpk hfz
                              obtain ⟨kp, hkp⟩ : ∃ kp, kp = keepP al p := ⟨_, rfl⟩
                              have HKP := (show Hid _ from hkp)
                              clear hkp
                              go_upto_region 27 with fail
                              go_cut [213] from 194 to 213 (fun c wy => c = .bool kp ∧ Below wr.heap.size wr wy)
                              case first =>
                                have hcl := Cls.cell (w := wr)
                                have HK2 : Hid (kp = (decide (al < 0) || decide ((p.1 : Int) < al))) := by show _ = _; rw [HKP.out]; rfl
                                by_cases hal : al < 0
                                · have d0 : decide (al < 0) = true := by simp [hal]
                                  refine wp_region_calm (by kernel_rfl) (by kernel_rfl) (fun hne => ?_)
                                  repeat (go_big_quiet_step (fail))
                                  refine wpQuiet_nil ?_
                                  rintro _ ⟨y, rfl⟩
                                  go_wp2_with fail
                                  go_meet
                                  exact ⟨by rw [HK2.out, d0]; rfl, y.bel⟩
                                · have d0 : decide (al < 0) = false := by simp; omega
                                  refine wp_region_calm (by kernel_rfl) (by kernel_rfl) (fun hne => ?_)
                                  repeat (go_big_quiet_step (fail))
                                  refine wpQuiet_nil ?_
                                  rintro _ ⟨y, rfl⟩
                                  go_wp2_with fail
                                  go_meet
                                  exact ⟨by rw [HK2.out, d0]; rfl, y.bel⟩
                              case rest =>
                                obtain ⟨rfl, hbw⟩ := hcut
                                have HRc := (show Hid _ from HR.out.below hbw)
                                have g4 : wc.cell? ⟨g', k * 7 + 4, none⟩ = some (.slice (some ⟨gp, 0, none⟩) ps.length c3) := by rw [hbw.cell (by exact hgx), f4]
                                have t1' : wc.cell? ⟨gp, j2 * 2, none⟩ = some (.int .i64 (p.1 : Int)) := by rw [hbw.cell (by exact hgp), t1]
                                have t2' : wc.cell? ⟨gp, j2 * 2 + 1, none⟩ = some (bv p.2) := by rw [hbw.cell (by exact hgp), t2]
                                have hgc := Nat.lt_of_lt_of_le hgx hbw.size
                                have hgpc := Nat.lt_of_lt_of_le hgp hbw.size
                                have hft := keep_take al ps j2 p HPK.out
                                rw [← HF2.out, ← HKP.out] at hft
                                have HFT := (show Hid _ from hft)
                                clear hft hbw f4 f5 t1 t2 hgx hgp HR
                                cases kp
                                · go_wp2_with fail
                                  go_roundw
                                  case rel => exact ⟨j2 + 1, by omega, by go_num, by rw [HFT.out]; simp only [Bool.false_eq_true, if_false, List.append_nil]; exact HRc⟩
                                  case measure => simp [intOf]; omega
                                · obtain ⟨i0, hi, hz0, hz1, hz2⟩ := info_parts infoP
                                  have hnw := alloc_news wc (parV p) 73
                                  have HNW := (show Hid _ from hnw)
                                  clear hnw
                                  go_wp2_with (first
                                    | (at_builtin; refine wpList_append_own _ rfl (.tmp 214) (.tmp 222) 60 rfl wo.heap.size 73 i0 _ 2 16 Try.underlying60 hi hz0 hz1 hz2 rfl (by decide) _ _ _ rfl (HRc.out.own.alloc _) ⟨wc.heap.size, 0, none⟩ 1 1 (parV p) rfl rfl HNW.out ?c2 ?c3 ?c4 ?c5 ?_)
                                    | fail)
                                  case c2 => intro u hu; simp [parV] at hu; rcases hu with rfl | rfl <;> rfl
                                  case c3 => unfold maxLen; omega
                                  case c4 => omega
                                  case c5 => have := HRc.out.bel.size; simp; omega
                                  intro v4 w4 ho4 hg4 hn4
                                  have HM4 : Hid (MRow wo w4 v4 (F ++ [p])) := by
                                    refine ⟨by rw [rowP_snoc, List.length_append]; exact ho4, ?_⟩
                                    exact (HRc.out.bel.alloc HRc.out.bel.size _).grown hg4 (by have := HRc.out.bel.size; simp; omega) (fun b hb => (HRc.out.own.lt b hb).1)
                                  clear ho4 hg4 hn4
                                  go_wp2_with fail
                                  go_roundw
                                  case rel => exact ⟨j2 + 1, by omega, by go_num, by rw [HFT.out]; exact HM4⟩
                                  case measure => simp [intOf]; omega
                            · obtain rfl : j2 = ps.length := by omega
                              have hF3 : F = ps.filter (keepP al) := by rw [HF2.out, List.take_length]
                              obtain ⟨E3, hE3⟩ : ∃ E3, E3 = x.1.taken i s := ⟨_, rfl⟩
                              have hE3' : E3 = { E1 with ps := F } := by
                                rw [hE3, hF3, HPS.out]
                                unfold RE.taken
                                rw [← HE1.out, HAL.out, HO.out.2]
                              have hge : GoodE E3 := by rw [hE3]; exact HGX.out.taken hnb.2 (by omega) hbig
                              have hFE : E3.ps = F := by rw [hE3']
                              have hfew : F.length ≤ 2000 ∧ ∀ p ∈ F, p.1 < 2000 := ⟨hFl, fun p hp => by rw [← hFE] at hp; exact (hge.lt p hp).1⟩
                              have hk : Kept (fun b => (Value.slice a3 ps.length c3).ownBlock = some b) wo (fun b => (Value.slice am F.length cm).ownBlock = some b) wr := ⟨HR.out.bel.os, HR.out.bel.tape, HR.out.bel.output, HR.out.bel.size, fun b hb _ => HR.out.bel.block b hb, fun b e => .inr (HR.out.own.lt b e).1⟩
                              have hset := HH3.out.2.1.setPs k _ HH3.out.2.2.1 F (.slice am F.length cm) hk (ownsRow_base HR.out.own (Nat.zero_le _)) (.inr (fun b e => (HR.out.own.lt b e).1)) hfew
                              rw [List.set_set] at hset
                              have hKF := ((HN1.out.trans HH3.out.1).trans hset.1)
                              have hRF := hset.2
                              rw [show ({ src := E1.src, dst := E1.dst, proto := E1.proto, id := E1.id, ps := F, all := E1.all, at_ := E1.at_ } : RE) = E3 from hE3'.symm] at hRF
                              obtain ⟨wF, hwF⟩ : ∃ wF, wF = wr.setCell ⟨g', k * 7 + 4, none⟩ (.slice am F.length cm) := ⟨_, rfl⟩
                              rw [← hwF] at hKF hRF
                              have HWF := (show Hid _ from And.intro hwF (And.intro hKF hRF))
                              have ff4 : wr.frozen? ⟨g', k * 7 + 4, none⟩ = false := by
                                have h1 := HH3.out.2.1.row
                                rw [List.length_set] at h1
                                rw [HR.out.bel.frozen (by exact HG3.out)]
                                exact h1.frozenAt _
                              have hkl : k < (L1.set k (E3, Value.slice am F.length cm)).length := by rw [List.length_set]; exact hk1
                              have hxF : (L1.set k (E3, Value.slice am F.length cm))[k]? = some (E3, .slice am F.length cm) := List.getElem?_set_self hk1
                              obtain ⟨gF, capF, hvF, hgF, hfF, hentF⟩ := hRF.ent (by omega)
                              have hgg := slice_g hvF
                              subst hgg
                              have eF := hentF k _ hxF
                              have hwh := wholeR_any (e := E3) hgF eF.e4 eF.e5 (hRF.parts _ (List.mem_of_getElem? hxF)) (by rw [hFE]; exact hFl) hge
                              obtain ⟨ia, hia⟩ : ∃ ia, E3.isAll = ia := ⟨_, rfl⟩
                              rw [hia] at hwh
                              have HIA := (show Hid _ from hia)
                              have HAF : Hid (A = putR (L1.map Prod.fst) k E3) := by show _ = _; rw [hE3]; exact HAX.out
                              have HKL := (show Hid _ from hkl)
                              clear f5 hge hFE hfew hk hset hKF hRF hkl hxF hvF hgF hfF hentF eF hia hF3 hE3 hE3'
                              go_wp2_with fail
                              rw [← HWF.out.1]
                              refine hwh.mono ?_
                              rintro r wG ⟨⟨T, rfl, hT⟩, hbG⟩
                              have HBG2 := (show Hid _ from hbG)
                              have HT := (show Hid _ from hT)
                              clear hwh hbG hT f4 ff4
                              cases ia
                              · go_wp2_with fail
                                refine bodyPost_ret (v := .tuple #[.string ⟨#[]⟩, .bool false, .int .i64 0]) (results_tmp3 Try.results16 _ _ _) rfl ⟨?_, L1.set k (E3, .slice am F.length cm), ?_, _, _, HWF.out.2.1.trans (Kept.of_below _ HBG2.out), HWF.out.2.2.below HBG2.out⟩
                                · rw [HAF.out]
                                  unfold putR
                                  rw [if_neg (by rw [HIA.out]; decide)]
                                · rw [HAF.out]
                                  unfold putR
                                  rw [if_neg (by rw [HIA.out]; decide), List.map_set]
                              · have hdr := drop_any (HWF.out.2.2.below HBG2.out) k HKL.out
                                go_wp2_with fail
                                refine hdr.mono ?_
                                rintro r w9 ⟨rfl, G9, v9, k9, h9⟩
                                have H9 := (show Hid _ from And.intro k9 h9)
                                clear hdr k9 h9
                                go_wp2_with fail
                                refine bodyPost_ret (v := .tuple #[.string T, .bool true, .int .i64 0]) (results_tmp3 Try.results16 _ _ _) rfl ⟨?_, _, ?_, G9, v9, (HWF.out.2.1.trans (Kept.of_below _ HBG2.out)).trans H9.out.1, H9.out.2⟩
                                · rw [HAF.out]
                                  unfold putR
                                  rw [if_pos HIA.out, show T = E3.text from by first | exact HT.out rfl | exact HT.out trivial]
                                · rw [HAF.out]
                                  unfold putR
                                  rw [if_pos HIA.out, ← List.eraseIdx_eq_take_drop_succ, map_erase, List.map_set, List.eraseIdx_set_eq]
end Go.Proofs.Ytkfgapljphhmcaa
