/- errors.As at a target of type *api.Errno, plain.Told and moneyersame.Error: which number an error has (after the guide's worked example on errors.As). -/
import Derived.Test.YtmoijbdpbpfljaaHas
import Derived.LaidEql
import Derived.Stop.Asserts
import Derived.RowKitTokens
namespace Go.Proofs.Ytmoijbdpbpfljaa
open Go.RowKit Go.Extern.Stop Go.Stop Go.Extern
set_option linter.unusedVariables false

/-- The error with a number; 0: nil. -/
def errV (e : Int) : Value := if e = 0 then .nilIface else .iface 51 (.int .i64 e)

theorem Try.kindE (w : World) : ((ReflectliteType.abiMethod fun t => (fun a : Nat => Value.int IntKind.u8 (a : Int)) <$> Rtype.kind t) #[.pointer (some ⟨0, 51, none⟩)]).run Try.prog w = .ok (.int .u8 2) w := by kernel_rfl
theorem Try.valueOfE (e : Int) (w : World) : (ReflectliteValue.unpack (.iface 51 (.int .i64 e))).run Try.prog w
    = .ok (.agg #[.pointer (some ⟨0, 51, none⟩), .pointer (some ⟨w.heap.size, 0, none⟩), .int .u64 130]) (w.alloc (.cells #[.int .i64 e] 51)) := by kernel_rfl
theorem Try.mkE (p : Addr) (w : World) : (ReflectliteValue.mk 51 p ReflectliteValue.flagAddr).run Try.prog w = .ok (.agg #[.pointer (some ⟨0, 51, none⟩), .pointer (some p), .int .u64 386]) w := by kernel_rfl
theorem Try.partsEa (a : Addr) (w : World) : (ReflectliteValue.parts (.agg #[.pointer (some ⟨0, 51, none⟩), .pointer (some a), .int .u64 386])).run Try.prog w = .ok (some (51, a, 386)) w := by kernel_rfl
theorem Try.partsE (a : Addr) (w : World) : (ReflectliteValue.parts (.agg #[.pointer (some ⟨0, 51, none⟩), .pointer (some a), .int .u64 130])).run Try.prog w = .ok (some (51, a, 130)) w := by kernel_rfl
theorem Try.directE (w : World) : (Rtype.directlyAssignable 51 51).run Try.prog w = .ok true w := by kernel_rfl
end Go.Proofs.Ytmoijbdpbpfljaa
