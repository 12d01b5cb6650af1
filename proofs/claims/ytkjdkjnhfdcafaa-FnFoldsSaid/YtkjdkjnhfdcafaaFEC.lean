/- FoldOrder with its list's room: stands in FE. -/
import Derived.Test.YtkjdkjnhfdcafaaFE
namespace Go.Proofs.Ytkjdkjnhfdcafaa
end Go.Proofs.Ytkjdkjnhfdcafaa
