/- What is made, as relations: a datagram, a segment, a frame of either, a reset, what could not be reached. -/
import Derived.Test.YthfncbcnokkmiaaCrPl
namespace Go.Proofs.Ythfncbcnokkmiaa
open Go.RowKit
set_option linter.unusedVariables false
def IpOut (i : Ip) (body p : ByteArray) (c : Int) : Prop := (i.May ∧ body.size ≤ 2000 ∧ p = i.put body ∧ c = 0) ∨ (¬ i.May ∧ p = ⟨#[]⟩ ∧ c = 1) ∨ (i.May ∧ 2000 < body.size ∧ p = ⟨#[]⟩ ∧ c = 5)
theorem ipOut_ex (i : Ip) (body : ByteArray) : ∃ p c, IpOut i body p c := by
  by_cases hm : i.May
  case neg => exact ⟨_, _, .inr (.inl ⟨hm, rfl, rfl⟩)⟩
  by_cases h2 : body.size ≤ 2000
  · exact ⟨_, _, .inl ⟨hm, h2, rfl, rfl⟩⟩
  · exact ⟨_, _, .inr (.inr ⟨hm, by omega, rfl, rfl⟩)⟩
theorem IpOut.size {i : Ip} {body p : ByteArray} {c : Int} (h : IpOut i body p c) : p.size ≤ 2060 := by
  rcases h with ⟨hm, hb, rfl, _⟩ | ⟨_, rfl, _⟩ | ⟨_, _, rfl, _⟩
  · rw [put_size]
    have := hm.2.2.2.2.2.2.1
    omega
  · show 0 ≤ 2060; omega
  · show 0 ≤ 2060; omega
theorem IpOut.zero {i : Ip} {body p : ByteArray} {c : Int} (h : IpOut i body p c) : c = 0 ↔ (i.May ∧ body.size ≤ 2000) := by
  rcases h with ⟨hm, hb, _, rfl⟩ | ⟨hm, _, rfl⟩ | ⟨hm, hb, _, rfl⟩
  · exact ⟨fun _ => ⟨hm, hb⟩, fun _ => rfl⟩
  · exact ⟨fun h => absurd h (by decide), fun h => absurd h.1 hm⟩
  · exact ⟨fun h => absurd h (by decide), fun h => by omega⟩
def SgOut (a b : UInt32) (h : Sg) (body p : ByteArray) (c : Int) : Prop := (h.May ∧ 20 + h.opts.size + body.size ≤ 2000 ∧ p = h.put a b body ∧ c = 0) ∨ (¬ h.May ∧ p = ⟨#[]⟩ ∧ c = 1) ∨ (h.May ∧ 2000 < 20 + h.opts.size + body.size ∧ p = ⟨#[]⟩ ∧ c = 5)
theorem sgOut_ex (a b : UInt32) (h : Sg) (body : ByteArray) : ∃ p c, SgOut a b h body p c := by
  by_cases hm : h.May
  case neg => exact ⟨_, _, .inr (.inl ⟨hm, rfl, rfl⟩)⟩
  by_cases h2 : 20 + h.opts.size + body.size ≤ 2000
  · exact ⟨_, _, .inl ⟨hm, h2, rfl, rfl⟩⟩
  · exact ⟨_, _, .inr (.inr ⟨hm, by omega, rfl, rfl⟩)⟩
theorem SgOut.size {a b : UInt32} {h : Sg} {body p : ByteArray} {c : Int} (x : SgOut a b h body p c) : p.size ≤ 2000 := by
  rcases x with ⟨hm, hb, rfl, _⟩ | ⟨_, rfl, _⟩ | ⟨_, _, rfl, _⟩
  · rw [sgPut_size]; omega
  · show 0 ≤ 2000; omega
  · show 0 ≤ 2000; omega
def IcOut (h : Dg) (body p : ByteArray) (c : Int) : Prop := (h.MayI ∧ 8 + body.size ≤ 2000 ∧ p = h.putI body ∧ c = 0) ∨ (¬ h.MayI ∧ p = ⟨#[]⟩ ∧ c = 1) ∨ (h.MayI ∧ 2000 < 8 + body.size ∧ p = ⟨#[]⟩ ∧ c = 5)
theorem icOut_ex (h : Dg) (body : ByteArray) : ∃ p c, IcOut h body p c := by
  by_cases hm : h.MayI
  case neg => exact ⟨_, _, .inr (.inl ⟨hm, rfl, rfl⟩)⟩
  by_cases h2 : 8 + body.size ≤ 2000
  · exact ⟨_, _, .inl ⟨hm, h2, rfl, rfl⟩⟩
  · exact ⟨_, _, .inr (.inr ⟨hm, by omega, rfl, rfl⟩)⟩
theorem IcOut.size {h : Dg} {body p : ByteArray} {c : Int} (x : IcOut h body p c) : p.size ≤ 2000 := by
  rcases x with ⟨hm, hb, rfl, _⟩ | ⟨_, rfl, _⟩ | ⟨_, _, rfl, _⟩
  · rw [icPut_size]; omega
  · show 0 ≤ 2000; omega
  · show 0 ≤ 2000; omega
/-- frames -/
def Data (e : Et) (i : Ip) (body D : ByteArray) : Prop := ∃ p c, IpOut i body p c ∧ D = if c = 0 then e.put p else ⟨#[]⟩
theorem data_ex (e : Et) (i : Ip) (body : ByteArray) : ∃ D, Data e i body D := by
  obtain ⟨p, c, h⟩ := ipOut_ex i body
  exact ⟨_, p, c, h, rfl⟩
def Segm (e : Et) (i : Ip) (h : Sg) (body D : ByteArray) : Prop := ∃ p c D', SgOut i.src i.dst h body p c ∧ Data e i p D' ∧ D = if c = 0 then D' else ⟨#[]⟩
theorem segm_ex (e : Et) (i : Ip) (h : Sg) (body : ByteArray) : ∃ D, Segm e i h body D := by
  obtain ⟨p, c, x⟩ := sgOut_ex i.src i.dst h body
  obtain ⟨D', y⟩ := data_ex e i p
  exact ⟨_, p, c, D', x, y, rfl⟩
def Rese (e : Et) (i : Ip) (h : Sg) (seq ack : UInt32) (back : Bool) (D : ByteArray) : Prop := if back = true then Segm e.back i.back (h.reset true seq ack) ⟨#[]⟩ D else Segm e i.on (h.reset false seq ack) ⟨#[]⟩ D
theorem rese_ex (e : Et) (i : Ip) (h : Sg) (seq ack : UInt32) (back : Bool) : ∃ D, Rese e i h seq ack back D := by
  unfold Rese
  cases back
  · exact segm_ex _ _ _ _
  · exact segm_ex _ _ _ _
def Unre (e : Et) (i : Ip) (body D : ByteArray) : Prop := ∃ p c0 t c D', IpOut i body p c0 ∧ IcOut dgTold (p.extract 0 (toldN i p)) t c ∧ Data e.back i.told t D' ∧ D = if c = 0 then D' else ⟨#[]⟩
theorem unre_ex (e : Et) (i : Ip) (body : ByteArray) : ∃ D, Unre e i body D := by
  obtain ⟨p, c0, x⟩ := ipOut_ex i body
  obtain ⟨t, c, y⟩ := icOut_ex dgTold (p.extract 0 (toldN i p))
  obtain ⟨D', z⟩ := data_ex e.back i.told t
  exact ⟨_, p, c0, t, c, D', x, y, z, rfl⟩
end Go.Proofs.Ythfncbcnokkmiaa
