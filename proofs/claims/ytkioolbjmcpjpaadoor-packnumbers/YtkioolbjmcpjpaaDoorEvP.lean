/- The document's example of chapter 11; what a trade's check comes to. -/
import Derived.Test.YtkioolbjmcpjpaaDoorEvD
namespace Go.Proofs.YtkioolbjmcpjpaaDoor.Ev
open Go.RowKit
set_option linter.unusedVariables false

def none' : C := .odd .nilIface
theorem none_ok : none'.Ok := .inl rfl
def pass0 : Ev := ⟨1, ⟨#[]⟩, ⟨#[]⟩, ⟨#[]⟩, ⟨#[]⟩, 0, 0, none'⟩
def ev0 : Ev := ⟨0, ⟨#[]⟩, ⟨#[]⟩, ⟨#[]⟩, ⟨#[]⟩, 0, 0, none'⟩
theorem small_size : (⟨#[]⟩ : ByteArray).size ≤ maxLen := by decide
theorem pass0_ok : pass0.Ok := by
  constructor <;> first | exact none_ok | exact small_size | (show (1 : Nat) ≤ 1000000; omega) | (unfold pass0; simp only; omega)
theorem ev0_ok : ev0.Ok := by
  constructor <;> first | exact none_ok | exact small_size | (show (1 : Nat) ≤ 1000000; omega) | (unfold ev0; simp only; omega)
theorem pass0_chk : chkE pass0 = 0 := by decide +kernel
theorem ev0_chk : chkE ev0 = 1 := by decide +kernel

/-- A trade. -/
def trade (id : ByteArray) (c : C) : Ev := ⟨2, id, ⟨#[]⟩, ⟨#[]⟩, ⟨#[]⟩, 0, 0, c⟩
theorem trade_ok (id : ByteArray) (c : C) (hi : id.size ≤ maxLen) (hc : c.Ok) (hw : c.weight ≤ 1000000) : (trade id c).Ok := by
  constructor <;> first | exact hc | exact hi | exact hw | exact small_size | (unfold trade; simp only; omega)
theorem trade_form (id : ByteArray) (c : C) : formE (trade id c) = nameGo 0 (runesOf id) := by
  have h1 : (!((flds 2).toList == [63])) = true := by decide +kernel
  have h2 : hasB (flds 2) 73 = true := by decide +kernel
  have h3 : hasB (flds 2) 78 = false := by decide +kernel
  have h4 : hasB (flds 2) 76 = false := by decide +kernel
  have h5 : hasB (flds 2) 67 = false := by decide +kernel
  have h6 : hasB (flds 2) 68 = false := by decide +kernel
  have h7 : hasB (flds 2) 86 = false := by decide +kernel
  have h8 : hasB (flds 2) 84 = true := by decide +kernel
  have h9 : (⟨#[]⟩ : ByteArray).toList.isEmpty = true := by decide +kernel
  unfold formE trade
  simp only [h1, h2, h3, h4, h5, h6, h7, h8, fitS, fitI, h9]
  simp
theorem trade_chk (id : ByteArray) (c : C) : chkE (trade id c) = if nameGo 0 (runesOf id) = true then wErrC c else 1 := by
  unfold chkE
  rw [trade_form]
  simp [trade]

end Go.Proofs.YtkioolbjmcpjpaaDoor.Ev
