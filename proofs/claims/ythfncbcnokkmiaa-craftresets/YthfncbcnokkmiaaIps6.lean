/- Layer 3: what is put is got, by ipv4's Get. -/
import Derived.Test.YthfncbcnokkmiaaIps5
namespace Go.Proofs.Ythfncbcnokkmiaa
open Go.RowKit
set_option linter.unusedVariables false
theorem body_ext (h : Ip) (body more : ByteArray) : (h.put body ++ more).extract (20 + h.opts.size) (20 + h.opts.size + body.size) = body := by
  apply ByteArray.ext
  apply Array.ext'
  rw [ext_list, toList_append, put_list]
  have e : (h.front body.size ++ (Pl.bigL (sumL (h.front body.size ++ h.ends)) 2 ++ h.ends)).length = 20 + h.opts.size := by
    rw [List.length_append, List.length_append, Pl.bigL_length, ends_length, front_length]
    omega
  have hb : body.data.toList.length = body.size := toList_length _
  rw [List.append_assoc, List.take_append, List.drop_append, e]
  rw [List.take_of_length_le (by omega), List.drop_of_length_le (by omega), List.nil_append]
  rw [e, Nat.sub_self, List.drop_zero, show 20 + h.opts.size + body.size - (20 + h.opts.size) = body.size from by omega]
  exact List.take_left' hb
theorem back_any (h : Ip) (body more : ByteArray) (w : World) (hm : h.May) (hb : body.size ≤ 2000) (hmo : more.size ≤ 100000) :
    Calls Try.prog 24 #[.string (h.put body ++ more)] w fun e w' => e = .returned (.tuple #[.agg (ipV h), .string body, .int .i64 0]) ∧ Below w.heap.size w w' := by
  have ho : h.opts.size ≤ 40 := hm.2.2.2.2.2.2.1
  have g := put_got h body more.data.toList hm hb
  rw [← toList_append] at g
  have c := get_any (h.put body ++ more) w (by rw [ByteArray.size_append, put_size]; omega)
  rw [g.1, g.2.1, g.2.2.1, g.2.2.2, body_ext] at c
  exact c
theorem back_self (h : Ip) (body : ByteArray) (w : World) (hm : h.May) (hb : body.size ≤ 2000) :
    Calls Try.prog 24 #[.string (h.put body)] w fun e w' => e = .returned (.tuple #[.agg (ipV h), .string body, .int .i64 0]) ∧ Below w.heap.size w w' := by
  have c := back_any h body ⟨#[]⟩ w hm hb (by decide)
  have e : h.put body ++ (⟨#[]⟩ : ByteArray) = h.put body := by
    apply ByteArray.ext
    simp
  rw [e] at c
  exact c
/-- bytes with something wrong -/
theorem get_wrong (s : ByteArray) (c : Int) (w : World) (hs : s.size ≤ 1000000) (h : badL s.data.toList = c) (h0 : c ≠ 0) :
    Calls Try.prog 24 #[.string s] w fun e w' => e = .returned (.tuple #[.agg ipZ, .string ⟨#[]⟩, .int .i64 c]) ∧ Below w.heap.size w w' := by
  have g := get_any s w hs
  rw [h] at g
  unfold answer at g
  rw [if_neg h0] at g
  exact g
/-- the example's head -/
def ipEx : Ip := ⟨0, 0, false, false, 0, 9, 6, 1, 2, ⟨#[]⟩⟩
theorem ipEx_may : ipEx.May := by
  refine ⟨⟨by decide, by decide⟩, ⟨by decide, by decide⟩, ⟨by decide, by decide⟩, ⟨by decide, by decide⟩, ⟨by decide, by decide⟩, by decide, by decide, by decide⟩
end Go.Proofs.Ythfncbcnokkmiaa
